import PyProof.Rows.All
import Wide.All
import OpenK.AllK
import Wide.FinOn
import HandS.ForMost
import HandS.ForExc
import HandS.StrMore
import HandS.IsInst
import HandS.Codes
import HandS.Gcd
import HandS.Zip
import HandS.Zip0
import KE.GoesZip
import KE.GoesMore
import HandS.Walk
import KE.KMathG
import HandS.Text
import HandS.Flow
import HandS.More
import HandS.Walk
import HandS.OwnEq
import HandS.Style
import PyProof.Raises
import KE.RegKIsAll
import KE.KSuper
import KE.KExcSuper
import HandS.ExcInit
import HandS.Nested
import HandS.FStr
import HandS.ExcField
import HandS.ExcIs
import HandS.Wide
import HandS.Replace
import KE.GoesEnum
import HandS.ReplaceDef
import HandS.ReplaceLit
import HandS.ReplaceList
import HandS.WideBits
import HandS.ExcCtx
import HandS.HotCalls
import HandS.Deep
import HandS.CallLocal
import HandS.CallSlots
import HandS.Star
import HandS.TupLen
import HandS.Property
import KE.KStar
import KE.KeyNested
import KE.KDictCopyH
import KE.KDictList
import PyProof.StrBlock2
import HandS.Conv
import KE.KDictWalk
import PyProof.DictValues
import PyProof.DictRoadsH
import PyProof.DictMoreH
import PyProof.Rows.TupTab
import PySem.Challenge.RW_livequill_k23_numbers_and_bases
set_option Elab.async false
set_option linter.all false
set_option maxRecDepth 100000
namespace XS
open PySem PySem.W PySem.Calls PyProof.Rows L2 NdefX
/-! ### an own exception whose __init__ begins with super().__init__(e), over ValueError -/
/-- what the written part says: of the def at fI (its code object at cda, its cell at cc), of the class D in which it is written, and of the class C that is made -/
structure Sup (prog : Program) (K : Frag) (mg : Str → Option Value) (cda cc D C : Addr) : Prop where
  code : ∃ ccl cdd vs ccs file tf, K.lookup cda = some ⟨ccl, cdd, .fields vs, ccs⟩ ∧ vs[2]? = some (.str file tf) ∧ ((prog.main.file : Str) == file) = true
  cell : ∃ cl cld csl, K.lookup cc = some ⟨cl, cld, .cell (some (.ref D)), csl⟩
  top : (prog.main.scope.names.lookup ("super" : Str)).isSome = false
  sup : mg "super" = none
  cls : ∃ cdD, clsIn K D = some cdD
  sub : mroIn K C (.ref D) = some true
  opq : nsIn K cStatics "thirdparty.any" = some none
  ini : ks_superIn K C D "__init__" = some (some (.builtin "ValueError.__init__"))
  val : subIn K (.ref C) (.type "ValueError") = some true

theorem excInit_exo {cdC : Addr} {K : Frag} (T : OexC K cdC) {h : Heap} (X : K.In h) : ∃ nm q N bs bm sn sub ab col dd k0 k1 k2 k3 k5, h.get? cdC = some (excClassObj nm q cdC N bs bm true sn sub ab col dd k0 k1 k2 k3 k5 "ValueError.__new__") ∧ PySem.HandSPX.refsVE bm = true := by
  obtain ⟨nm, q, N, bs, bm, sn, sub, ab, col, dd, k0, k1, k2, k3, k5, hC, hbm⟩ := T.cls
  exact ⟨nm, q, N, bs, bm, sn, sub, ab, col, dd, k0, k1, k2, k3, k5, X _ _ hC, hbm⟩

section
variable {X : Cx} {pins : List (Addr × Obj)} {σ : L2.St} {H : Hp} {s : Shared} {x C : Addr} {A : Around} {E : Value → Shared → Prop}
/-- the method-wrapper called -/
theorem mw_call {u : Addr} {us : List Value} {Q : Value → Shared → Prop} (T : OexC X.K C) (I : Inv X pins σ H s) (e : H x = some (exo x C none)) (hu : s.heap.get? u = some (kxs_mw "ValueError.__init__" x)) (hl : us.length ≤ sizeLine)
    (h : ∀ s', Inv X pins σ H s' → Q .none s') : wpAny (model X.prog X.w) A (call (.ref u) us) Q E s := by
  obtain ⟨nm, q, N, bs, bm, sn, sub, ab, col, dd, k0, k1, k2, k3, k5, hC, hbm⟩ := excInit_exo T I.kIn
  obtain ⟨t1, ho⟩ := exo_at I.hok e
  obtain ⟨hp, g, d, t, os⟩ := s
  refine wpAny_call (codeAny_of_tree ?_)
  show wpAny _ A.in1 (callAny (.ref u) ⟨us, []⟩) _ _ _
  simp only [callAny]
  refine wpAny_bind (wpAny_load hu ?_)
  simp only [kxs_mw, show (Value.type "method-wrapper" == Value.type "method" || Value.type "method-wrapper" == Value.type "builtin_function_or_method" || Value.type "method-wrapper" == Value.type "method-wrapper") = true by decide, if_true]
  refine KFB.if_so (by decide) ?_
  refine wpAny_bind (check_bound_init F.excBase_ValueError.toExcCallFacts hC ho rfl ?_)
  refine wpAny_bind (wpAny_pure (wpAny_pure ?_))
  refine ⟨plainId_quiet F.excBase_ValueError.init.plain _, codeAny_builtin F.excBase_ValueError.initEntry ?_⟩
  refine exc_init_tree (cls := .ref C) (t0 := t1) (dv := none) (c2 := .none) (c3 := .none) (b4 := .bool false) ho hl fun h' k hx _ => ?_
  have J := I.write (t' := t) (x := x) (e := x) (o := exo x C none) (by rw [e]; exact True.intro) (.inl rfl) k ⟨_, hx⟩ (exo_ok hx)
  have eu : upd H x (exo x C none) = H := by
    funext b
    by_cases hb : b = x
    · rw [hb, upd_same, e]
    · rw [upd_ne hb]
  rw [eu] at J
  exact h _ J
end
theorem mw_with {M : Model} {A : Around} {E : Value → Shared → Prop} {s : Shared} {u x : Addr} {i : String} {pos : Pos} {env : Env} {e : Expr} {rest : List Expr} {Q : Value → Shared → Prop}
    (he : starEach (e :: rest) env = (false, eval e env) :: starEach rest env) (hplain : (backTo pos (starEach rest env)).any (·.1) = false)
    (h : wpAny M A (spliced (backTo pos (starEach (e :: rest) env))) (fun vs s₁ => KxsAt i u x s₁.heap ∧ wpAny M A (call (.ref u) vs) Q E s₁) E s) :
    wpAny M A (callWith pos (.ref u) [] (backTo pos (starEach (e :: rest) env)) []) Q E s := by
  rw [he] at h ⊢
  refine kxs_callWith (i := i) (x := x) (by show (false || (backTo pos (starEach rest env)).any (·.1)) = false; rw [hplain]; rfl) ?_
  exact evalArgs_plain h
/-- the def's own words -/
structure SupFn where
  qual : Str
  params : Arguments
  rest : List Stmt
  scope : Scope
  cda : Addr
  cc : Addr
  arg : Expr
  p0 : Pos
  p1 : Pos
  p2 : Pos
  p3 : Pos
  p4 : Pos
abbrev SupFn.body (F : SupFn) : List Stmt := .Expr (.Call (.Attribute (.Call (.Name "super" F.p0) [] [] F.p1) "__init__" F.p2) [F.arg] [] F.p3) F.p4 :: F.rest
abbrev SupFn.nf (F : SupFn) : NF := ⟨"__init__", F.qual, F.params, F.body, F.scope, [("__class__", F.cc)], F.cda⟩
def SupFn.Ev (F : SupFn) : Prop := ∀ env : Env, (∃ pl : Sem Bool, eval (.Call (.Attribute (.Call (.Name "super" F.p0) [] [] F.p1) "__init__" F.p2) [F.arg] [] F.p3) env = (do
      let ov ← attributeBase (.Call (.Name "super" F.p0) [] [] F.p1) "__init__" env (eval (.Call (.Name "super" F.p0) [] [] F.p1) env)
      standAt F.p2.atName
      let (f, first) ← holding [ov] (getMethod ov "__init__" pl)
      callWith F.p3 f first (backTo F.p3 (starEach [F.arg] env)) [])) ∧ starEach [F.arg] env = (false, eval F.arg env) :: starEach [] env ∧ swapsWith (.Call (.Attribute (.Call (.Name "super" F.p0) [] [] F.p1) "__init__" F.p2) [F.arg] [] F.p3) none F.p4.line env = pure false
theorem fn_super {CX : CXT} {P : Program} {w : World} {K : Frag} {mg : Str → Option Value} {base : Heap} {k : Nat} {fI D : Addr} {F : SupFn} {dV kV doc pm ct oc : Value} {an od : Option Addr} {osl : Array (Option Value)} {N ps : List Str} {sp : Sp} {ar : Arg}
    (lk : K.lookup fI = some ⟨oc, od, .func (ksFn "__init__" F.qual F.params F.body F.scope dV kV doc pm an (.ref F.cda) ct F.cc), osl⟩) (hcd : codeIn K (.ref F.cda) F.qual = true) (S : NScope N ps ["__class__"] F.scope)
    (hp : (F.params.posonlyargs ++ F.params.args).head? = some ar) (h0 : ps.head? = some ar.arg) (hks : F.scope.names.lookup ("super" : Str) = some .globalImplicit)
    (hev : F.Ev) (len : ∀ vs H Q E, sp vs H Q E → vs.length = ps.length)
    (hbody : ∀ (A : Around) (outer : List Env) (s : Shared) (H : Hp) (vs : List V) (Q : VK) (E : XK), Room k (A.deeper (envF F.nf fI s.heap.objs.size)) → sp vs H Q E →
      ∃ (x C : Addr) (ta : TA) (t : TS), vs.head? = some (.ref x) ∧ H x = some (exo x C none) ∧ OexC K C ∧ Sup P K mg F.cda F.cc D C ∧
        PA (ncx CX P w K mg base N F.nf fI A outer s H E) [F.arg] ta ∧ PSs (ncx CX P w K mg base N F.nf fI A outer s H E) F.rest t ∧
        ta (startF N vs [none]) H fun ws H1 => ws.length ≤ 1000 ∧ H1 x = some (exo x C none) ∧ t { nx := fun _ H' => Q .non H', rt := Q } (startF N vs [none]) H1) :
    FnOk P w K mg base CX (k + 1) fI (ksFn "__init__" F.qual F.params F.body F.scope dV kV doc pm an (.ref F.cda) ct F.cc) ps sp := by
  refine ⟨len, fun A outer s H args us vs Q E hr e0 hb r hsp => ?_⟩
  have hl := len _ _ _ _ hsp
  have KX : K.In s.heap := e0.mod.kin.keeps fun b o e => (e0.bs b o e).1
  have lim : s.heap.NoLimit := e0.mod.nolimit.keeps fun b o e => (e0.bs b o e).1
  obtain ⟨x, C, ta, t, hx0, hx, T, U, pa, pb, hq⟩ := hbody A outer s H vs Q E (hr.deeper _) hsp
  obtain ⟨ccl, cdd, cvs, ccs, file, tf, hcode, hvs, hfile⟩ := U.code
  obtain ⟨cl, cld, csl, hcell⟩ := U.cell
  obtain ⟨cdD, hD⟩ := U.cls
  refine ks_codeAny_call_defAt (fd := ksFn "__init__" F.qual F.params F.body F.scope dV kV doc pm an (.ref F.cda) ct F.cc) (body := F.body) (binds := ps.zip us) hr.depth (KX _ _ lk) rfl lim (codeRec_of KX hcd) rfl hb S.nocell (fun ⟨n, _⟩ hy => S.par n (List.of_mem_zip hy).1) (fun h₁ hns kp => ?_) S.co S.gen S.kind
  have CA : CellsAt F.nf.cl ["__class__"] [none] s.heap H := by
    have hc0 : base.get? F.cc = _ := e0.mod.kin _ _ hcell
    obtain ⟨g1, g2⟩ := e0.bs _ _ hc0
    have key : ∀ y c, F.nf.cl.lookup y = some c → y = "__class__" ∧ c = F.cc := fun y c e => by
      by_cases hy : y = "__class__"
      · subst hy
        have e' : some F.cc = some c := by simpa [List.lookup] using e
        exact ⟨rfl, (Option.some.inj e').symm⟩
      · have hne : (y == ("__class__" : Str)) = false := by simpa using hy
        have e' : (none : Option Addr) = some c := by simpa [List.lookup, hne] using e
        cases e'
    refine ⟨rfl, fun y c e => ?_, fun a b c e1 e2 => (key _ _ e1).1.trans (key _ _ e2).1.symm, fun i y e => ?_⟩
    · obtain ⟨_, rfl⟩ := key y c e
      exact ⟨g2, _, _, g1, rfl⟩
    · obtain rfl : y = "__class__" := by
        cases i with
        | zero => exact (Option.some.inj e).symm
        | succ i => cases e
      refine ⟨F.cc, by simp [List.lookup], fun v e' => ?_⟩
      cases i with
      | zero => cases e'
      | succ i => cases e
  have I : Inv (ncx CX P w K mg base N F.nf fI A outer s H E) [] (startF N vs [none]) H { s with heap := h₁, toks := s.toks + (ps.zip us).length } := inv_startN (F := F.nf) S hr.hd e0 hl r CA hns kp
  generalize hs1 : ({ s with heap := h₁, toks := s.toks + (ps.zip us).length } : Shared) = s1 at I ⊢
  have X1 : K.In s1.heap := I.kIn
  obtain ⟨t1, ho⟩ := exo_at I.hok hx
  obtain ⟨oD, hD1, hD2⟩ : ∃ oD, s1.heap.get? D = some oD ∧ oD.data = .cls cdD := by
    unfold clsIn at hD
    split at hD
    · rename_i c d cd' sl ho
      cases hD
      exact ⟨_, X1 _ _ ho, rfl⟩
    · cases hD
  have J : InstAt s1.heap x { cls := .ref C, dict := none, data := .fields #[.ref t1, .none, .none, .none, .bool false, .none] } C none := ⟨ho, rfl, rfl, trivial⟩
  have hself : ∃ u0 ur, us = u0 :: ur ∧ u0 = .ref x := by
    cases vs with
    | nil => cases hx0
    | cons v vr =>
      cases r with
      | @cons _ u0 _ ur ra rr =>
        obtain rfl : v = V.ref x := Option.some.inj hx0
        exact ⟨_, _, rfl, ra⟩
  obtain ⟨u0, ur, eu, eu0⟩ := hself
  subst eu0
  have hN : ∃ pr, ps = ar.arg :: pr := by
    cases ps with
    | nil => cases h0
    | cons a pr =>
      obtain rfl : a = ar.arg := Option.some.inj h0
      exact ⟨pr, rfl⟩
  obtain ⟨pr, eps⟩ := hN
  have ndP : ps.Nodup := by
    have q := S.nd.sublist (List.take_sublist (ps.length + (["__class__"] : List Str).length) N)
    rw [S.pre] at q
    exact (List.nodup_append.mp q).1
  have hns1 : s1.heap.Ns s.heap.objs.size (fun y => (ps.zip us).reverse.lookup y) := by rw [← hs1]; exact hns
  have hav : (ps.zip us).reverse.lookup ar.arg = some (.ref x) := zip_look (i := 0) ndP (by rw [eps]; rfl) (by rw [eu]; rfl)
  have ea : (ncx CX P w K mg base N F.nf fI A outer s H E).xe = fun e s' => wpAny (model P w) (A.deeper (envF F.nf fI s.heap.objs.size)) (leaving (envF F.nf fI s.heap.objs.size) e) (fun _ s'' => CX outer H s E e s'') (fun e' s'' => CX outer H s E e' s'') s' := rfl
  show _root_.PySem.wpAt (model P w) (A.deeper (envF F.nf fI s.heap.objs.size)) (.func F.body (envF F.nf fI s.heap.objs.size)) (execs F.body (envF F.nf fI s.heap.objs.size)) _ (ncx CX P w K mg base N F.nf fI A outer s H E).xe s1
  obtain ⟨⟨pl, hev1⟩, hev2, hev3⟩ := hev (envF F.nf fI s.heap.objs.size)
  refine ks_wpAt_execs_cons (ks_wpAt_Expr_any (ks_wpAt_MethodCall (pl := pl) ?_ hev1) (by show interactive (envF F.nf fI s.heap.objs.size) = false; simp [interactive, S.kind]) hev3)
  obtain ⟨mb, hb1, hb2⟩ := e0.mod.blt
  refine ks_wpAt_super_base (env := envF F.nf fI s.heap.objs.size) (of := _) (fd := _) (ar := ar) (oc := _) hks (S.frk _ (by simp)) rfl rfl (X1 _ _ lk) rfl hp rfl (X1 _ _ hcode) rfl hvs hfile U.top ?_
  refine ks_loadName_global S.kind hks (loadGlobal_builtin (env := envF F.nf fI s.heap.objs.size) (e0.mod.glob.keeps I.bk) U.sup (hb1.keeps I.bk) ((hb2 _ (by decide)).trans (by decide +kernel)) ⟨rfl, ?_⟩)
  refine wpAny_loadName_free S.kind (S.frk _ (by simp)) rfl ⟨_, X1 _ _ hcell, rfl⟩ ?_
  refine wpAny_loadName_local S.kind (S.par _ (by rw [eps]; simp)) hns1 hav ?_
  refine ks_wpAny_isType_cls hD1 hD2 ⟨rfl, ?_⟩
  clear hns kp
  obtain ⟨hp1, g1, d1, tk1, os1⟩ := s1
  refine ks_wpAny_call_super hD1 hD2 J.at_ J.cls (fun c e => by cases e) (looks_mroIn X1 U.sub) (fun h2 es2 k2 => ?_)
  have I2 := I.kept (t' := tk1) k2
  have X2 : K.In h2 := I2.kIn
  have J2 : InstAt h2 x { cls := .ref C, dict := none, data := .fields #[.ref t1, .none, .none, .none, .bool false, .none] } C none := ⟨k2 _ _ ho, rfl, rfl, trivial⟩
  have hI : Looks (model P w) h2 (isInstance (.ref x) (.type "ValueError")) true := J2.type.andThen (looks_subIn X2 U.val)
  have hini := U.ini
  cases hc : clsIn K C with
  | none => unfold ks_superIn at hini; rw [hc] at hini; cases hini
  | some cd =>
    unfold ks_superIn at hini
    rw [hc] at hini
    refine kxs_getMethod kxs_ValueError es2 (looks_opaque X2 U.opq) (l₀ := cd.mro) (fun A Q E s k q => wpAny_bind ((looks_clsIn X2 hc) A _ E s k (wpAny_pure q))) rfl X2 hini hI (ks_ne X2 J2 hc) rfl ?_
    have k3 : ∀ b o, h2.get? b = some o → (h2.push (kxs_mw "ValueError.__init__" x)).get? b = some o := fun b o e => Heap.get?_push_of_some _ e
    have I3 := I2.kept (h' := h2.push (kxs_mw "ValueError.__init__" x)) (t' := tk1 + 1) k3
    have hu : (h2.push (kxs_mw "ValueError.__init__" x)).get? h2.objs.size = some (kxs_mw "ValueError.__init__" x) := Heap.get?_push_at rfl rfl
    have pin : Inv (ncx CX P w K mg base N F.nf fI A outer s H E) [(h2.objs.size, kxs_mw "ValueError.__init__" x)] (startF N vs [none]) H ⟨h2.push (kxs_mw "ValueError.__init__" x), g1, d1, tk1 + 1, os1⟩ := by
      refine Inv.pins_of I3 fun p hp => ?_
      obtain rfl : p = (h2.objs.size, kxs_mw "ValueError.__init__" x) := by simpa using hp
      refine ⟨hu, I2.hok.fresh (Nat.le_refl _), ?_, I2.nofs (Nat.le_refl _), fun v e => by cases e⟩
      exact Nat.ne_of_gt I2.lt
    refine mw_with (i := "ValueError.__init__") (x := x) hev2 rfl ?_
    refine wpAny_mono (pa.run F.p3 _ _ _ _ _ pin hq) (fun ws s2 hh => ?_) fun e s' hs => hs
    obtain ⟨vs2, H2, I4, r4, hlen, hx4, hq4⟩ := hh
    have hu4 : s2.heap.get? h2.objs.size = some (kxs_mw "ValueError.__init__" x) := (I4.pin (h2.objs.size, kxs_mw "ValueError.__init__" x) (by simp)).1
    refine ⟨hu4, ?_⟩
    have hlw : ws.length ≤ sizeLine := by
      rw [← r4.length, sizeLine_eq]
      omega
    refine mw_call (X := ncx CX P w K mg base N F.nf fI A outer s H E) T I4 hx4 hu4 hlw fun s5 I5 => ?_
    have I6 : Inv (ncx CX P w K mg base N F.nf fI A outer s H E) [] (startF N vs [none]) H2 s5 := I5.pins_of fun p hp => absurd hp (by simp)
    refine wpAt_of_wpAny (wpAny_mono (pb.run [] s5 _ H2 _ I6 hq4) (fun fl s' hs => ?_) fun e s' hs => hs)
    have fin : ∀ {σ' : L2.St} {H' : Hp} {v : V} {u : Value}, Inv (ncx CX P w K mg base N F.nf fI A outer s H E) [] σ' H' s' → L2.RelV v u → Q v H' → CE outer P w H s Q u s' :=
      fun {σ' H' v u} J rv q => ⟨v, H', J.os, J.bare, J.base, J.hok, rv, q⟩
    cases fl with
    | ret u =>
      obtain ⟨v, σ', H', J, rv, q⟩ := hs
      exact fin J rv q
    | next =>
      obtain ⟨σ', H', J, q⟩ := hs
      exact fin (v := V.non) (u := Value.none) J rfl q
    | brk =>
      obtain ⟨_, _, _, q⟩ := hs
      exact False.elim q
    | cont =>
      obtain ⟨_, _, _, q⟩ := hs
      exact False.elim q
end XS
namespace XS
open PySem L2 NdefX
/-- the words of an __init__ that begins with super().__init__(e) -/
def supOf (st : Stmt) (qual : Str) (cda cc : Addr) : SupFn := match defBody st with
  | .Expr (.Call (.Attribute (.Call (.Name _ p0) _ _ p1) _ p2) (a :: _) _ p3) p4 :: rest => ⟨qual, defArgs st, rest, defScope st, cda, cc, a, p0, p1, p2, p3, p4⟩
  | _ => ⟨qual, defArgs st, [], defScope st, cda, cc, .Name "x" ⟨0, 0, 0, 0⟩, ⟨0, 0, 0, 0⟩, ⟨0, 0, 0, 0⟩, ⟨0, 0, 0, 0⟩, ⟨0, 0, 0, 0⟩, ⟨0, 0, 0, 0⟩⟩
/-- an __init__(self, n1, n2) of an own exception: f'..' of both to super's, then both are stored -/
def spTwo (C : Addr) (n1 n2 : Str) : Sp := fun vs H Q _ => ∃ a v1 v2, vs = [.ref a, v1, v2] ∧ H a = some (exo a C none) ∧ (∃ k : Str, v1 = .str k ∧ k.length ≤ 100000) ∧ (∃ k : Str, v2 = .str k ∧ k.length ≤ 100000) ∧
  ∀ d, H d = none → d ≠ a → Q .non (upd (upd (upd H d (exd d [(n1, v1)])) a (exo a C (some d))) d (exd d [(n2, v2), (n1, v1)]))
/-- what the written part says of the class at C and of its __init__ at fI -/
structure Exn (prog : Program) (K : PySem.W.Frag) (mg : Str → Option Value) (C fI : Addr) (n1 n2 : Str) : Prop where
  oex : OexC K C
  n1 : PySem.W.findIn K (.ref C) n1 = some none
  n2 : PySem.W.findIn K (.ref C) n2 = some none
  iC : PySem.W.findIn K (.ref C) "__init__" = some (some (.ref fI))
  tI : PySem.W.typeIn K (.ref fI) = some (.type "function")
  xf : XfC K C
  te : PySem.W.exmOne K (.ref C) (.ref C) = some true
/-- the end of C(e, ..) as the caller has it -/
theorem made_two {C : Addr} {n1 n2 : Str} {v1 v2 : V} {H : Hp} {a d : Addr} (hne : d ≠ a) (ha : H a = none) :
    upd (del (upd (upd (upd (upd H a (exo a C none)) d (exd d [(n1, v1)])) a (exo a C (some d))) d (exd d [(n2, v2), (n1, v1)])) a) d (.xd [(n2, v2), (n1, v1)]) = upd H d (.xd [(n2, v2), (n1, v1)]) := by
  funext b
  by_cases hb : b = d
  · rw [hb, upd_same, upd_same]
  · rw [upd_ne hb, upd_ne hb]
    by_cases hc : b = a
    · rw [hc, del_same, ha]
    · rw [del_ne hc, upd_ne hb, upd_ne hc, upd_ne hb, upd_ne hc]
section
variable {X : Cx} {C fI : Addr} {n1 n2 x : Str} {e : Expr} {es : List Expr} {ta : TA} {p pos pos2 : Pos} {fd : FuncData} {k : Nat}
/-- raise C(e1, e2) -/
theorem ps_raise2 {W : WX} (hc : X.calm = true) (T : Exn X.prog X.K X.mg C fI n1 n2) (F : FnOk X.prog X.w X.K X.mg X.base CX0 k fI fd ["self", n1, n2] (spTwo C n1 n2)) (hr : Room (k + 1) X.A) (tk : Takes X W) (hb : Binds X.K fd ["self", n1, n2] []) (hg : Gl X x) (hm : X.mg x = some (.ref C)) (ha : PA X (e :: es) ta)
    (hdb : (x == ("__debug__" : Str)) = false := by decide) (he : starEach (e :: es) X.env = (false, eval e X.env) :: starEach es X.env := by rfl) (hpl : (backTo pos (starEach es X.env)).any (·.1) = false := by rfl) :
    PS X (.Raise (some (.Call (.Name x p) (e :: es) [] pos)) none pos2) (fun _ σ H => tMkO C (spTwo C n1 n2) [] ta σ H fun cls d H' => W cls d σ H') := ps_raise (pos := pos2) hc tk (pmk_oex (e := e) (es := es) (p := p) (pos := pos) T.oex T.iC T.tI F hr hb .nil pass0 hg hm ha hdb he hpl)
/-- .. its reading, behind the arguments' -/
theorem made2 {k1 k2 : Str} {H1 : Hp} {Q : XK} (z1 : k1.length ≤ 100000) (z2 : k2.length ≤ 100000) (w : ∀ d, H1 d = none → Q (.ref C) (some d) (upd H1 d (.xd [(n2, .str k2), (n1, .str k1)]))) :
    ([.str k1, .str k2] : List V).length ≤ 1000 ∧ ∀ a, H1 a = none → spTwo C n1 n2 (.ref a :: ([.str k1, .str k2] ++ [])) (upd H1 a (exo a C none))
      (fun v H2 => v = .non ∧ ∃ (d : Addr) (fs : List (Str × V)), H2 a = some (exo a C (some d)) ∧ H2 d = some (exd d fs) ∧ H1 d = none ∧ Q (.ref C) (some d) (upd (del H2 a) d (.xd fs))) (fun _ _ _ => False) := by
  refine ⟨by show 2 ≤ 1000; omega, fun a ha => ?_⟩
  refine ⟨a, .str k1, .str k2, rfl, upd_same, ⟨_, rfl, z1⟩, ⟨_, rfl, z2⟩, fun d hd hne => ⟨rfl, d, _, ?_, upd_same, ?_, ?_⟩⟩
  · rw [upd_ne (Ne.symm hne)]
    exact upd_same
  · rw [upd_ne hne] at hd
    exact hd
  · rw [upd_ne hne] at hd
    rw [made_two hne ha]
    exact w d hd
end
end XS
namespace PySem.W
open PySem PySem.Spec PySem.Calls PyProof.Rows
section
variable {prog : Program} {w : World} {A : Around} {E : Value → Shared → Prop} {s : Shared} {K : Frag} {x D : Addr} {ox : Obj}
theorem xs_findObj {C : Addr} {od : Option Obj} {name : Str} {a g : Value} (hc : (clsIn K C).isSome = true) (ha : findIn K (.ref C) name = some (some a)) (hg : specialIn K a "__get__" = some (some g)) (ht : takesIn K a = some true) : findObj K C od name = some (.bind g a) := by
  obtain ⟨cd, hc⟩ := Option.isSome_iff_exists.mp hc
  unfold findObj
  rw [hc, Option.bind_some, ha, Option.bind_some]
  simp [hg, ht]
theorem xs_class {Q : Option Value → Shared → Prop} (hga : findIn K (.ref D) "__getattribute__" = some (some (.builtin "BaseException.__getattribute__"))) (hgt : findIn K (.ref D) "__getattr__" = some none) (hsub : subIn K (.ref D) (.type "BaseException") = some true)
    (hdct : hasDictIn K D = true) (ha : findIn K (.ref D) "__class__" = some (some (.builtin "object.__class__")))
    (hn : specialIn K (.builtin "object.__class__") "__get__" = some (some (.builtin "getset_descriptor.__get__"))) (htk : takesIn K (.builtin "object.__class__") = some true) (hm : mroIn K D (.type "object") = some true)
    {odx : Option Obj} (X : K.In s.heap) (I : InstAt s.heap x ox D odx) (h : Q (some (.ref D)) { s with toks := s.toks + 1 }) : wpAny (model prog w) A (getAttr? (.ref x) "__class__") Q E s := by
  have hf : findObj K D odx "__class__" = some (.bind (.builtin "getset_descriptor.__get__") (.builtin "object.__class__")) := xs_findObj (by obtain ⟨cd, hc, _⟩ := any_some hdct; rw [hc]; rfl) ha hn htk
  obtain ⟨hp, g, d, t, os⟩ := s
  have L0 := I.type (M := model prog w)
  have L1 := looks_findIn (M := model prog w) X hga
  have L2 := looks_findIn (M := model prog w) X hgt
  have L3 := looks_find (M := model prog w) X I hf
  have sub : Looks (model prog w) hp (isInstance (.ref x) (.type "BaseException")) true := L0.andThen (looks_subIn X hsub)
  have hx0 : (false && onTheHeap (Value.builtin "BaseException.__getattribute__")) = false := rfl
  have hx2 : (Value.builtin "BaseException.__getattribute__" == Value.builtin "object.__getattribute__") = false := by decide +kernel
  have hx1 : (onTheHeap (Value.ref D) && Value.builtin "BaseException.__getattribute__" == Value.builtin "object.__getattribute__") = false := by rw [hx2]; rfl
  unfold getAttr? getAttrBy? getAttrBy
  refine wpAny_bind (wpAny_mkText (wpAny_bind (wpAny_attempt (wpAny_holding (wpAny_bind (L0.at (wpAny_bind (L1.at ?_))))))))
  show wpAny _ _ (if (onTheHeap (Value.ref D) && Value.builtin "BaseException.__getattribute__" == Value.builtin "object.__getattribute__") = true then _ else _) _ _ _
  rw [hx1, if_neg Bool.false_ne_true]
  unfold getAttrByItsOwn hookBefore
  refine wpAny_bind ?_
  rw [if_pos (show onTheHeap (Value.ref D) = true from rfl)]
  refine L2.at ?_
  refine wpAny_bind (wpAny_attempt (wpAny_holding ?_))
  unfold callGetattribute
  rw [hx0, if_neg Bool.false_ne_true]
  unfold boundAndCalled
  rw [PySem.F.excAttr_ValueError.ga.bind (.ref x)]
  refine wpAny_bind (wpAny_pure ?_)
  show wpAny _ _ (call (.builtin "BaseException.__getattribute__") [.ref x, .str "__class__" t]) _ _ _
  refine wpAny_call (codeAny_call_builtin PySem.F.excAttr_ValueError.ga.plain PySem.F.entry_bexc_ga ?_)
  refine @check_slot (model prog w) _ _ ⟨hp, g, d, t + 1, os⟩ "BaseException.__getattribute__" "BaseException" "__getattribute__" (.ref x) [.str "__class__" t] [] _ (by decide +kernel) (by decide +kernel) sub (PySem.F.args_bexc_ga (.ref x) (.str "__class__" t)) ?_
  unfold Builtin.«object.__getattribute__»
  refine wpAny_bind (wpAny_of_eq (a := ((Value.ref x : Value), [Value.str "__class__" t])) (by first | rfl | (simp only [slotArgs]; rfl)) ?_)
  refine wpAny_bind (wpAny_pure (wpAny_bind (L0.at (wpAny_bind (L3.at ?_)))))
  show wpAny _ _ (holding [Value.builtin "object.__class__"] (call (.builtin "getset_descriptor.__get__") [.builtin "object.__class__", .ref x, .ref D]) >>= ret) _ _ _
  refine wpAny_bind (wpAny_holding (wpAny_call (class_get (s := ⟨hp, g, d, t + 1, os⟩) (ox := ox) (od := odx) X I hm ?_)))
  refine wpAny_pure ?_
  show wpAny _ _ (handedOut (.ref D)) _ _ _
  rw [handedOut_of (v := .ref D) rfl]
  first
    | exact wpAny_pure (wpAny_pure h)
    | exact wpAny_pure h
    | exact wpAny_pure (wpAny_bind (wpAny_pure (wpAny_pure h)))
theorem xs_kitx {odx : Option Obj} (hga : findIn K (.ref D) "__getattribute__" = some (some (.builtin "BaseException.__getattribute__"))) (hgt : findIn K (.ref D) "__getattr__" = some none) (hsub : subIn K (.ref D) (.type "BaseException") = some true) (hdct : hasDictIn K D = true) (ha : findIn K (.ref D) "__class__" = some (some (.builtin "object.__class__")))
    (hn : specialIn K (.builtin "object.__class__") "__get__" = some (some (.builtin "getset_descriptor.__get__"))) (htk : takesIn K (.builtin "object.__class__") = some true) (hm : mroIn K D (.type "object") = some true) :
    KitX K (.ref x) (.ref D) (fun h => InstAt h x ox D odx) where
  ty := fun _ _ _ I => I.type
  it := fun _ _ X _ => by
    obtain ⟨cdD, hcD, _⟩ := any_some hdct
    unfold clsIn at hcD
    split at hcD
    · rename_i c' d' cd' sl' ho
      intro A' Q' E' s' k q
      unfold isType loadHead
      exact wpAny_bind (wpAny_loadPart (k _ _ (X _ _ ho)) (wpAny_pure q))
    · cases hcD
  ne := fun h tp dd its n sl X htp => by
    obtain ⟨cdD, hcD, _⟩ := any_some hdct
    refine Bool.eq_false_iff.mpr fun q => ?_
    have e : D = tp := Value.ref.inj (beq_iff_eq.mp q)
    subst e
    unfold clsIn at hcD
    split at hcD
    · rename_i c' d' cd' sl' ho
      have z := (X _ _ ho).symm.trans htp
      cases z
    · cases hcD
  ca := fun X I k => xs_class hga hgt hsub hdct ha hn htk hm X I k
end
end PySem.W
namespace L2
open PySem PySem.Spec PyProof.Rows
/-- isinstance(e, c), e the exception that the suite holds, with fields of its own -/
def rIsED (K : PySem.W.Frag) (D a : Addr) (cls : Value) (d : Option Addr) : List V → Hp → VK → Prop := fun xs H Q => ∃ (c : V) (cv : Value) (b : Bool) (dd : Addr) (fs : List (Str × V)), cls = .ref D ∧ d = some dd ∧ xs = [.ref a, c] ∧ (∀ u, RelV c u → u = cv) ∧ H dd = some (.xd fs) ∧ PySem.W.kitOne K (.ref D) cv = some b ∧ Q (.bl b) H
theorem call_isED {X : Cx} {a D : Addr} {oe : Obj} {cls : Value} {d : Option Addr} {pn : List (Addr × Obj)} (C : ExcC X.K D) (hz : Zc cls d oe) (hf : ∃ vs, oe.data = .fields vs) : CallR (X.suite a ((a, oe) :: pn)) (.builtin "isinstance") (rIsED X.K D a cls d) := by
  intro pins s σ H xs us Q I r h
  obtain ⟨c, cv, b, dd, fs, rfl, rfl, rfl, hcv, hdd, e, q⟩ := h
  cases r with
  | cons rx rr =>
    cases rr with
    | cons rt rr =>
      cases rr
      cases rx
      have ec := hcv _ rt
      subst ec
      obtain ⟨hget, _⟩ := I.pin (a, oe) (List.mem_append.mpr (.inl List.mem_cons_self))
      obtain ⟨vs, hv⟩ := hf
      have hx : ObjOk X.prog X.w H s.heap dd (.xd fs) := I.hok dd _ hdd
      obtain ⟨mA, hns, hr⟩ := hx
      obtain ⟨od, ho, hl⟩ := lookIn_ns hns
      have J : PySem.W.InstAt s.heap a oe D (some od) := ⟨hget, hz.1, by unfold PySem.W.notCls; rw [hv] <;> rfl, by rw [hz.2]; exact ho⟩
      exact PySem.W.kia_one (PySem.W.xs_kitx C.hg C.hk C.hs C.hd C.ha C.hn C.ht C.hm) I.kIn J e (fun z => nomatch z) fun tk => ⟨.bl b, H, I.kept (t' := tk) fun _ _ z => z, rfl, q⟩
end L2
/-! own text: a dict whose keys are pairs of a mark (is it a bool?) and a key: null, a bool, a number, a text -/
namespace XT
open PySem PySem.Spec PyProof.Rows L2
def fk : V → NestedKey
  | .bl b => .num (if b = true then 1 else 0) | .int i => .num i | .str x => .text x | _ => .none
def isB : V → Bool
  | .bl _ => true | _ => false
def tk (k : V) : NestedKey := .tup [.num (if isB k = true then 1 else 0), fk k]
def keyOk : V → Bool
  | .non | .bl _ | .int _ | .str _ => true | _ => false
theorem tk_inj {a b : V} (ha : keyOk a = true) (hb : keyOk b = true) (h : tk a = tk b) : a = b := by
  unfold tk at h
  injection h with h
  injection h with h1 h2
  injection h2 with h2 _
  injection h1 with h1
  cases a <;> cases b <;> simp_all [fk, isB, keyOk]
  case bl.bl x y => cases x <;> cases y <;> simp_all
theorem tk_depth (k : V) : (tk k).depth ≤ 8 := by
  cases k <;> simp [tk, fk, NestedKey.depth, NestedKey.depthAll]
abbrev Ent := V × Addr × V
abbrev EV : List Ent → List (NestedKey × Addr × Value) → Prop := Paired fun p q => tk p.1 = q.1 ∧ p.2.1 = q.2.1 ∧ RelV p.2.2 q.2.2
def TabO (P : Program) (w : World) (a : Addr) (es : List Ent) : HO := .ext fun h => (a == sysModules) = false ∧ ∃ xs o ds ep, EV es xs ∧ h.get? a = some o ∧ o.ExactDict ∧ o.data = .dict ds ep ∧ ds.toList = xs.map (entryOfKey (nestedKind P w)) ∧ (xs.map (·.1)).Nodup
structure TabAt (P : Program) (w : World) (H : Hp) (a : Addr) (es : List Ent) : Prop where
  at_ : H a = some (TabO P w a es)
  keys : ∀ e ∈ es, keyOk e.1 = true ∧ H e.2.1 = some (.tup [.bl (isB e.1), e.1])
  len : es.length ≤ 1000000
def valT (es : List Ent) (k : V) : Option V := (es.find? fun e => decide (e.1 = k)).map (·.2.2)
def putT (es : List Ent) (k : V) (b : Addr) (v : V) : List Ent := if (valT es k).isSome = true then es.map (fun e => if e.1 = k then (e.1, e.2.1, v) else e) else es ++ [(k, b, v)]
def dropT (es : List Ent) (k : V) : List Ent := es.filter fun e => decide (e.1 ≠ k)
theorem key_is {P : Program} {w : World} {H : Hp} {h : Heap} {b : Addr} {k : V} (ok : HOk P w H h) (hk : keyOk k = true) (e : H b = some (.tup [.bl (isB k), k])) : (nestedKind P w).is h (tk k) b := by
  obtain ⟨_, its, r, o, h1, h2, n, h3⟩ := (show ObjOk P w H h b (.tup [.bl (isB k), k]) from ok b _ e)
  refine ⟨.tup h1 h2 h3 ?_, tk_depth k⟩
  cases r with
  | cons r1 r2 =>
    cases r2 with
    | cons r2 r3 =>
      cases r3
      cases (show _ = Value.bool (isB k) from r1)
      refine .cons (.bool rfl) (.cons ?_ .nil)
      cases k with
      | non => cases (show _ = Value.none from r2); exact .none
      | bl b => cases (show _ = Value.bool b from r2); exact .bool rfl
      | int i => obtain ⟨t, rfl⟩ := r2; exact .int i t
      | str x => obtain ⟨t, rfl⟩ := r2; exact .text x t
      | _ => exact nomatch hk
theorem EV.val {es : List Ent} {xs : List (NestedKey × Addr × Value)} (r : EV es xs) {k : V} (hk : keyOk k = true) (he : ∀ e ∈ es, keyOk e.1 = true) : RelO (valT es k) ((atKey xs (tk k)).map (·.2)) := by
  induction r with
  | nil => exact True.intro
  | @cons p q ps qs h t ih =>
    obtain ⟨h1, _, h2⟩ := h
    have ih := ih fun e m => he e (List.mem_cons_of_mem _ m)
    unfold valT at ih ⊢
    by_cases e : p.1 = k
    · have e' : q.1 = tk k := by rw [← h1, e]
      have b : atKey (q :: qs) (tk k) = some q.2 := by simp [atKey, List.find?_cons, e']
      rw [b, List.find?_cons, show decide (p.1 = k) = true from decide_eq_true e]
      exact h2
    · have e' : ¬ q.1 = tk k := fun z => e (tk_inj (he p (List.mem_cons_self ..)) hk (h1.trans z))
      have b : atKey (q :: qs) (tk k) = atKey qs (tk k) := by simp [atKey, List.find?_cons, e']
      rw [b, List.find?_cons, show decide (p.1 = k) = false from decide_eq_false e]
      exact ih
theorem EV.put {es : List Ent} {xs : List (NestedKey × Addr × Value)} (r : EV es xs) {k : V} {b : Addr} {v : V} {u : Value} (hk : keyOk k = true) (he : ∀ e ∈ es, keyOk e.1 = true) (rv : RelV v u) : EV (putT es k b v) (storedH xs (tk k) b u) := by
  have e : (valT es k).isSome = (atKey xs (tk k)).isSome := by
    rw [(r.val hk he).isSome_eq, Option.isSome_map]
  unfold putT storedH
  rw [e]
  by_cases q : (atKey xs (tk k)).isSome = true
  · rw [if_pos q, if_pos q]
    clear e q
    induction r with
    | nil => exact .nil
    | @cons p q ps qs h t ih =>
      rw [List.map_cons, List.map_cons]
      refine .cons ?_ (ih fun e m => he e (List.mem_cons_of_mem _ m))
      obtain ⟨h1, h2, h3⟩ := h
      unfold putAt
      by_cases e : p.1 = k
      · rw [if_pos e, if_pos (by rw [← h1, e])]
        exact ⟨h1, h2, rv⟩
      · rw [if_neg e, if_neg (fun z => e (tk_inj (he p (List.mem_cons_self ..)) hk (h1.trans z)))]
        exact ⟨h1, h2, h3⟩
  · rw [if_neg q, if_neg q]
    exact Paired.snoc r ⟨rfl, rfl, rv⟩
theorem EV.drop {es : List Ent} {xs : List (NestedKey × Addr × Value)} (r : EV es xs) {k : V} (hk : keyOk k = true) (he : ∀ e ∈ es, keyOk e.1 = true) : EV (dropT es k) (withoutH xs (tk k)) := by
  unfold dropT withoutH
  induction r with
  | nil => exact .nil
  | @cons p q ps qs h t ih =>
    have ih := ih fun e m => he e (List.mem_cons_of_mem _ m)
    obtain ⟨h1, h2, h3⟩ := h
    rw [List.filter_cons, List.filter_cons]
    by_cases e : p.1 = k
    · have a : ¬ decide (p.1 ≠ k) = true := by simp [e]
      have b : ¬ decide (q.1 ≠ tk k) = true := by simp [← h1, e]
      rw [if_neg a, if_neg b]
      exact ih
    · have e' : ¬ q.1 = tk k := fun z => e (tk_inj (he p (List.mem_cons_self ..)) hk (h1.trans z))
      have a : decide (p.1 ≠ k) = true := by simp [e]
      have b : decide (q.1 ≠ tk k) = true := by simp [e']
      rw [if_pos a, if_pos b]
      exact .cons ⟨h1, h2, h3⟩ ih
theorem TabAt.have {P : Program} {w : World} {H : Hp} {h : Heap} {a : Addr} {es : List Ent} (T : TabAt P w H a es) (ok : HOk P w H h) : (a == sysModules) = false ∧ ∃ xs, EV es xs ∧ h.DictOfH (nestedKind P w) a xs := by
  obtain ⟨⟨hs, xs, o, ds, ep, r, h1, h2, h3, h4, h5⟩, _, _⟩ := (show ObjOk P w H h a (TabO P w a es) from ok a _ T.at_)
  refine ⟨hs, xs, r, o, ds, ep, h1, h2, h3, h4, ?_, h5⟩
  have all : ∀ {l : List Ent} {m : List (NestedKey × Addr × Value)}, EV l m → (∀ e ∈ l, keyOk e.1 = true ∧ H e.2.1 = some (.tup [.bl (isB e.1), e.1])) → ∀ x ∈ m, (nestedKind P w).is h x.1 x.2.1 := by
    intro l m q
    induction q with
    | nil => intro _ x hx; exact nomatch hx
    | @cons p q ps qs hq t ih =>
      intro hl x hx
      rcases List.mem_cons.mp hx with e | hx
      · subst e
        have := hl p (List.mem_cons_self ..)
        rw [← hq.1, ← hq.2.1]
        exact key_is ok this.1 this.2
      · exact ih (fun e m => hl e (List.mem_cons_of_mem _ m)) x hx
  exact all r T.keys
theorem tab_new {P : Program} {w : World} {H : Hp} {h : Heap} {a : Addr} {es : List Ent} {xs : List (NestedKey × Addr × Value)} (hs : (a == sysModules) = false) (r : EV es xs) (d : h.DictOfH (nestedKind P w) a xs) : ObjOk P w H h a (TabO P w a es) := by
  obtain ⟨o, ds, ep, h1, h2, h3, h4, _, h5⟩ := d
  exact ⟨⟨hs, xs, o, ds, ep, r, h1, h2, h3, h4, h5⟩, ⟨o, h1⟩, fun g1 g2 ⟨_, xs', o', ds', ep', r', k1, k2⟩ st => ⟨hs, xs', o', ds', ep', r', st _ k1, k2⟩⟩
theorem room_in1 {A : Around} (hu : A.units + 64 < cLine) {P : Program} {w : World} : (nestedKind P w).room A.in1 := by
  show A.in1.units + 8 < cLine
  have : A.in1.units = A.units + 1 := by first | rfl | simp [Around.in1]
  omega
/-! ### the rules -/
def KeyAt (H : Hp) (b : Addr) (k : V) : Prop := keyOk k = true ∧ H b = some (.tup [.bl (isB k), k])
theorem TabAt.put {P : Program} {w : World} {H : Hp} {a b : Addr} {es : List Ent} {k v : V} (T : TabAt P w H a es) (hk : KeyAt H b k) (hl : es.length < 1000000) : TabAt P w (upd H a (TabO P w a (putT es k b v))) a (putT es k b v) := by
  have ne : ∀ {c : Addr} {ys : List V}, H c = some (.tup ys) → c ≠ a := fun {c ys} e z => by
    rw [z, T.at_] at e
    cases e
  refine ⟨upd_same, fun e he => ?_, ?_⟩
  · have all : keyOk e.1 = true ∧ H e.2.1 = some (.tup [.bl (isB e.1), e.1]) := by
      unfold putT at he
      split at he
      · obtain ⟨e0, h0, e1⟩ := List.mem_map.mp he
        have := T.keys e0 h0
        split at e1
        · subst e1
          exact this
        · subst e1
          exact this
      · rcases List.mem_append.mp he with he | he
        · exact T.keys e he
        · rw [List.mem_singleton] at he
          subst he
          exact hk
    exact ⟨all.1, by rw [upd_ne (ne all.2)]; exact all.2⟩
  · unfold putT
    split
    · rw [List.length_map]
      exact T.len
    · rw [List.length_append, List.length_singleton]
      omega
theorem TabAt.drop {P : Program} {w : World} {H : Hp} {a : Addr} {es : List Ent} {k : V} (T : TabAt P w H a es) : TabAt P w (upd H a (TabO P w a (dropT es k))) a (dropT es k) := by
  have ne : ∀ {c : Addr} {ys : List V}, H c = some (.tup ys) → c ≠ a := fun {c ys} e z => by
    rw [z, T.at_] at e
    cases e
  refine ⟨upd_same, fun e he => ?_, Nat.le_trans (List.length_filter_le _ _) T.len⟩
  have := T.keys e (List.mem_filter.mp he).1
  exact ⟨this.1, by rw [upd_ne (ne this.2)]; exact this.2⟩
theorem TabAt.mono {P : Program} {w : World} {H H' : Hp} {a : Addr} {es : List Ent} (T : TabAt P w H a es) (h1 : H' a = H a) (h2 : ∀ c ys, H c = some (.tup ys) → H' c = some (.tup ys)) : TabAt P w H' a es :=
  ⟨h1.trans T.at_, fun e he => ⟨(T.keys e he).1, h2 _ _ (T.keys e he).2⟩, T.len⟩
theorem sz_ok {es : List Ent} {xs : List (NestedKey × Addr × Value)} (r : EV es xs) (h : es.length ≤ 1000000) : xs.length ≤ sizeLine := by
  rw [← Paired.length r, sizeLine_eq]
  omega
section
variable {X : Cx} {o i value : Expr} {pos pos' tpos : Pos} {td ty tv : TE}
def tTNew (P : Program) (w : World) : TE := fun _ H Q => ∀ p, H p = none → Q (.ref p) (upd H p (TabO P w p []))
def tTGet (P : Program) (w : World) (td ty : TE) : TE := fun σ H Q => td σ H fun x H1 => ty σ H1 fun y H2 => ∃ a b k es v, x = .ref a ∧ y = .ref b ∧ TabAt P w H2 a es ∧ KeyAt H2 b k ∧ valT es k = some v ∧ Q v H2
def tTIn (P : Program) (w : World) (ty td : TE) : TE := fun σ H Q => ty σ H fun y H1 => td σ H1 fun x H2 => ∃ a b k es, x = .ref a ∧ y = .ref b ∧ TabAt P w H2 a es ∧ KeyAt H2 b k ∧ Q (.bl (valT es k).isSome) H2
def sTPut (P : Program) (w : World) (td ty tv : TE) : TS := fun D σ H => tv σ H fun v H1 => td σ H1 fun x H2 => ty σ H2 fun y H3 => ∃ a b k es, x = .ref a ∧ y = .ref b ∧ TabAt P w H3 a es ∧ KeyAt H3 b k ∧ D.nx σ (upd H3 a (TabO P w a (putT es k b v)))
def sTDel (P : Program) (w : World) (td ty : TE) : TS := fun D σ H => td σ H fun x H1 => ty σ H1 fun y H2 => ∃ a b k es, x = .ref a ∧ y = .ref b ∧ TabAt P w H2 a es ∧ KeyAt H2 b k ∧ (valT es k).isSome = true ∧ D.nx σ (upd H2 a (TabO P w a (dropT es k)))
theorem pe_tnew : PE X (.Dict [] [] pos) (tTNew X.prog X.w) := ⟨fun pins s σ H Q I h =>
  wpAny_Dict_empty ⟨.ref s.heap.objs.size, _, I.laid (a := s.heap.objs.size) (o := TabO X.prog X.w s.heap.objs.size []) (t' := s.toks) (fun _ _ q => Heap.get?_push_of_some _ q) (Nat.le_refl _)
    (tab_new (beq_eq_false_iff_ne.mpr (Ne.symm (Nat.ne_of_lt I.big))) .nil (Heap.DictOfH.new _)), rfl, h _ (I.hok.fresh (Nat.le_refl _))⟩⟩
theorem pe_tget (hu : X.A.units + 64 < cLine) (ho : PE X o td) (hi : PE X i ty) (hs : NoSl i) : PE X (.Subscript o i pos) (tTGet X.prog X.w td ty) := by
  refine ⟨fun pins s σ H Q I h => ?_⟩
  refine subD_of PySem.F.slot_dict_getitem.lookup hs (thn (ho.run pins s σ H _ I h) fun u s1 ⟨x, H1, I1, rx, q1⟩ => thn (hi.run pins s1 σ H1 _ I1 q1) fun iv s2 ⟨y, H2, I2, ry, a, b, k, es, v, ex, ey, T, hk, hv, q2⟩ => ?_)
  subst ex ey
  obtain rfl : u = Value.ref a := rx
  obtain rfl : iv = Value.ref b := ry
  obtain ⟨hd, xs, r, dd⟩ := T.have I2.hok
  obtain ⟨w', hw, rw'⟩ := RelO.some_of (v := v) (o := (atKey xs (tk k)).map (·.2)) (by rw [← hv]; exact r.val hk.1 fun e m => (T.keys e m).1)
  obtain ⟨p, hp, hp2⟩ := Option.map_eq_some_iff.mp hw
  refine ⟨dd.typeIs, wpAny_getItem_heap (room_in1 hu) (key_is I2.hok hk.1 hk.2) dd hp ?_⟩
  rw [hp2]
  exact ⟨v, H2, I2.tok _, rw', q2⟩
theorem pc_tin (hu : X.A.units + 64 < cLine) (hi : PE X i ty) (ho : PE X o td) : PC X .In i o (tTIn X.prog X.w ty td) := by
  refine ⟨fun pins s σ H Q I h => ?_⟩
  refine thn (hi.run pins s σ H _ I h) fun iv s1 ⟨y, H1, I1, ry, q1⟩ => thn (ho.run pins s1 σ H1 _ I1 q1) fun u s2 ⟨x, H2, I2, rx, a, b, k, es, ex, ey, T, hk, q2⟩ => ?_
  subst ex ey
  obtain rfl : u = Value.ref a := rx
  obtain rfl : iv = Value.ref b := ry
  obtain ⟨hd, xs, r, dd⟩ := T.have I2.hok
  refine wpAny_in_heap (room_in1 hu) (key_is I2.hok hk.1 hk.2) hd dd ?_
  have q := (r.val hk.1 fun e m => (T.keys e m).1).isSome_eq
  rw [Option.isSome_map] at q
  rw [← q]
  exact ⟨.bl (valT es k).isSome, H2, I2.tok _, rfl, q2⟩
theorem ps_tput (hu : X.A.units + 64 < cLine) (ho : PE X o td) (hi : PE X i ty) (hv : PE X value tv) (hs : swapsWith value (some (.Subscript o i pos')) pos.line X.env = pure false) :
    PS X (.Assign [.Subscript o i pos'] value pos) (sTPut X.prog X.w td ty tv) := by
  refine ⟨fun pins s σ H D I h => ?_⟩
  refine wpAny_Assign_Subscript (thn (hv.run pins s σ H _ I h) fun r s1 ⟨v, H1, I1, rv, q1⟩ => thn (ho.run pins s1 σ H1 _ I1 q1) fun u s2 ⟨x, H2, I2, rx, q2⟩ => thn (hi.run pins s2 σ H2 _ I2 q2) fun iv s3 ⟨y, H3, I3, ry, a, b, k, es, ex, ey, T, hk, q3⟩ => ?_) hs
  subst ex ey
  obtain rfl : u = Value.ref a := rx
  obtain rfl : iv = Value.ref b := ry
  obtain ⟨hd, xs, rr, dd⟩ := T.have I3.hok
  refine wpAny_setItem_heap (hsz := sz_ok rr T.len) (room_in1 hu) (key_is I3.hok hk.1 hk.2) dd fun h' dd' hsb => ?_
  have he : ∃ q, h'.get? a = some q := let ⟨q, _, _, hq, _⟩ := dd'; ⟨q, hq⟩
  exact ⟨σ, _, d_write I3 (by rw [T.at_]; exact True.intro) hsb he (tab_new hd (rr.put hk.1 (fun e m => (T.keys e m).1) rv) dd'), q3⟩
theorem ps_tdel (hu : X.A.units + 64 < cLine) (ho : PE X o td) (hi : PE X i ty) : PS X (.Delete [.Subscript o i tpos] pos) (sTDel X.prog X.w td ty) := by
  refine ⟨fun pins s σ H D I h => ?_⟩
  refine wpAny_Delete (wpAny_deleteEach_cons (wpAny_delete_Subscript (thn (ho.run pins s σ H _ I h) fun u s1 ⟨x, H1, I1, rx, q1⟩ => thn (hi.run pins s1 σ H1 _ I1 q1) fun iv s2 ⟨y, H2, I2, ry, a, b, k, es, ex, ey, T, hk, hv, q2⟩ => ?_)))
  subst ex ey
  obtain rfl : u = Value.ref a := rx
  obtain rfl : iv = Value.ref b := ry
  obtain ⟨hd, xs, rr, dd⟩ := T.have I2.hok
  have he1 : ∀ e ∈ es, keyOk e.1 = true := fun e m => (T.keys e m).1
  obtain ⟨p, hp⟩ : ∃ p, atKey xs (tk k) = some p := by
    have q := (rr.val hk.1 he1).isSome_eq
    rw [Option.isSome_map, hv] at q
    exact Option.isSome_iff_exists.mp q.symm
  refine wpAny_delItem_heap (hsz := sz_ok rr T.len) (room_in1 hu) (key_is I2.hok hk.1 hk.2) hd dd hp fun h' dd' hsb => wpAny_deleteEach_nil ?_
  have he : ∃ q, h'.get? a = some q := let ⟨q, _, _, hq, _⟩ := dd'; ⟨q, hq⟩
  exact ⟨σ, _, d_write I2 (by rw [T.at_]; exact True.intro) hsb he (tab_new hd (rr.drop hk.1 he1) dd'), q2⟩
/-- len(d) -/
theorem call_len_tab : CallR X (.builtin "len") (fun vs H Q => ∃ a es, vs = [.ref a] ∧ TabAt X.prog X.w H a es ∧ Q (.int (es.length : Nat)) H) := by
  intro pins s σ H vs us Q I rv h
  obtain ⟨a, es, rfl, T, q⟩ := h
  obtain ⟨u, rfl, ru⟩ := rv.one
  obtain rfl : u = Value.ref a := ru
  obtain ⟨hd, xs, r, dd⟩ := T.have I.hok
  have hz := sz_ok r T.len
  refine call_len_dictH hd dd (by rw [sizeLine_eq] at hz; omega) ?_
  rw [← Paired.length r]
  exact ⟨.int _, H, I.tok _, ⟨_, rfl⟩, q⟩
end
end XT
/-! own text: the values of such a dict, as a list -/
namespace XT
open PySem PySem.Spec PyProof.Rows L2
def ViewO (d v : Addr) : HO := .ext fun h => h.IsValuesView v d
theorem EV.vals {es : List Ent} {xs : List (NestedKey × Addr × Value)} (r : EV es xs) : Vals (es.map (·.2.2)) (xs.map (·.2.2)) := by
  induction r with
  | nil => exact .nil
  | cons h t ih => exact .cons h.2.2 ih
section
variable {prog : Program} {w : World} {A : Around} {E : Value → Shared → Prop} {s : Shared}
theorem meets_vals (d : Addr) (hd : (d == sysModules) = false) :
    MeetsIn prog w (Builtin.«dict.values» ⟨[.ref d], []⟩) (fun _ R s => s.TypeIs (.ref d) "dict" ∧
      R (.ok (.ret (.ref s.heap.objs.size))) { s with heap := s.heap.push { cls := .type "dict_values", data := .fields #[.ref d] } }) :=
  .of_wp fun A R s ⟨hm, h⟩ => by
    refine wpAny_bind ?_
    unfold Builtin.Dict.noArgs
    refine wpAny_bind (wpAny_notOrdered_dict hm ?_)
    show wpAny _ _ (pure d) _ _ s
    refine wpAny_pure ?_
    show wpAny _ _ (Builtin.Dict.showsAll d >>= _) _ _ s
    unfold Builtin.Dict.showsAll
    rw [if_neg (by rw [hd]; exact Bool.false_ne_true)]
    refine wpAny_bind (wpAny_pure ?_)
    exact wpAny_bind (wpAny_newObj_type (wpAny_pure ⟨_, rfl, h⟩))
end
section
variable {X : Cx} {o : Expr} {to : TE} {apos cpos : Pos}
def tTVals (P : Program) (w : World) (to : TE) : TE := fun σ H Q => to σ H fun x H1 => ∃ a es, x = .ref a ∧ TabAt P w H1 a es ∧ ∀ v, H1 v = none → Q (.ref v) (upd H1 v (ViewO a v))
theorem pe_tvals (ho : PE X o to) (hbase : attributeBase o "values" X.env (eval o X.env) = eval o X.env := by rfl) (hline : (apos.endLine == cpos.line) = true := by rfl) : PE X (.Call (.Attribute o "values" apos) [] [] cpos) (tTVals X.prog X.w to) := by
  refine ⟨fun pins s σ H Q I h => ?_⟩
  refine wpAny_Call_method0_late hbase hline (thn (ho.run pins s σ H _ I h) fun v s1 ⟨x, H1, I1, r1, a, es, ex, T, q1⟩ => ?_)
  subst ex
  obtain rfl : v = Value.ref a := r1
  obtain ⟨hd, xs, r, dd⟩ := T.have I1.hok
  refine ⟨"dict", "dict.values", PySem.F.plainAttrs_dict, PySem.F.slot_dict_values, PySem.F.type_dict_values, dd.typeIs, fun b e => ?_, Calls.callWith_builtin rfl (PySem.evalArgs_none ?_)⟩
  · cases e
    obtain ⟨ob, _, _, h1, h2, _⟩ := dd
    exact ⟨ob, h1, h2.2.1⟩
  refine call_meetsIn PySem.F.slot_dict_values dd.typeIs PySem.F.entry_dict_values (PySem.F.args_dict_values_1 _) (meets_vals a hd) ⟨dd.typeIs, ?_⟩
  have hv : (s1.heap.push { cls := .type "dict_values", data := .fields #[.ref a] }).IsValuesView s1.heap.objs.size a := ⟨_, Heap.get?_push_size _ rfl, rfl, rfl⟩
  refine ⟨.ref s1.heap.objs.size, _, I1.laid (a := s1.heap.objs.size) (o := ViewO a s1.heap.objs.size) (t' := s1.toks) (fun _ _ q => Heap.get?_push_of_some _ q) (Nat.le_refl _) ?_, rfl, q1 _ (I1.hok.fresh (Nat.le_refl _))⟩
  exact ⟨hv, ⟨_, Heap.get?_push_size _ rfl⟩, fun g1 g2 ⟨ob, k1, k2⟩ st => ⟨ob, st _ k1, k2⟩⟩
/-- list(d.values()) -/
theorem call_list_vals (hc : X.calm = true) : CallR X (.type "list") (fun vs H Q => ∃ v a es, vs = [.ref v] ∧ H v = some (ViewO a v) ∧ TabAt X.prog X.w H a es ∧ ∀ l, H l = none → Q (.ref l) (upd H l (.lst (es.map (·.2.2))))) := by
  intro pins s σ H vs us Q I rv h
  obtain ⟨v, a, es, rfl, hv, T, q⟩ := h
  obtain ⟨u, rfl, ru⟩ := rv.one
  obtain rfl : u = Value.ref v := ru
  obtain ⟨hd, xs, r, ob, ds, ep, h1, h2, h3, h4, h5, h6⟩ := T.have I.hok
  obtain ⟨hview, _, _⟩ := (show ObjOk X.prog X.w H s.heap v (ViewO a v) from I.hok v _ hv)
  have hview : s.heap.IsValuesView v a := hview
  have hsz : ds.size = xs.length := by
    rw [← Array.length_toList, h4, List.length_map]
  have hz := sz_ok r T.len
  refine W.kdl_call PySem.KdlSrc.rawValues (I.ok.hd hc) ⟨hview, ob, h1, h2, h3⟩ (by omega) fun h' tk acc' c' hk hS hacc => ?_
  have ea : acc'.toList = xs.map (·.2.2) := by
    refine List.ext_getElem? fun j => ?_
    by_cases hj : j < ds.size
    · have hj' : j < acc'.size := by rw [hacc.1]; exact hj
      obtain ⟨hi, e⟩ := hacc.2 j acc'[j] (by rw [Array.getElem?_eq_getElem hj'])
      have e2 : ds.toList[j]? = (xs.map (entryOfKey (nestedKind X.prog X.w)))[j]? := by rw [h4]
      rw [List.getElem?_map, Array.getElem?_toList, Array.getElem?_eq_getElem hj] at e2
      rw [Array.getElem?_toList, Array.getElem?_eq_getElem hj', e, List.getElem?_map]
      cases hx : xs[j]? with
      | none => rw [hx] at e2; cases e2
      | some x =>
        rw [hx] at e2
        rw [Option.some.inj e2]
        rfl
    · rw [List.getElem?_eq_none (by rw [Array.length_toList, hacc.1]; omega), List.getElem?_eq_none (by rw [List.length_map]; omega)]
  refine ⟨.ref s.heap.objs.size, _, I.laid (t' := tk) hk (Nat.le_refl _) (show ObjOk X.prog X.w _ h' _ (.lst (es.map (·.2.2))) from ⟨?_, acc'.toList, c', ?_, ?_⟩), rfl, q _ (I.hok.fresh (Nat.le_refl _))⟩
  · rw [List.length_map, Paired.length r]
    exact hz
  · rw [ea]
    exact r.vals
  · rw [Array.toArray_toList]
    exact hS
end
end XT
/-! own text: an own exception with an __init__ of its own as a value that is kept -/
namespace XE
open PySem PySem.Spec PyProof.Rows L2
/-- the exception at a, of the class at C, its dict at d -/
structure ExAt (H : Hp) (a C d : Addr) (fs : List (Str × V)) : Prop where
  e : H a = some (exo a C (some d))
  d : H d = some (exd d fs)
def tMkE (C : Addr) (sp : Sp) (dvs : List V) (ta : TA) : TE := fun σ H Q => ta σ H fun vs H1 => vs.length ≤ 1000 ∧ ∀ a, H1 a = none → sp (.ref a :: (vs ++ dvs)) (upd H1 a (exo a C none)) (fun v H2 => v = .non ∧ Q (.ref a) H2) (fun _ _ _ => False)
section
variable {X : Cx} {e : Expr} {es : List Expr} {ta : TA} {te : TE} {p pos : Pos}
theorem pe_mkE {CX : CXT} {x : Str} {C fI : Addr} {k : Nat} {fd : FuncData} {ps : List Str} {sp : Sp} {ds : List Value} {dvs : List V} (T : OexC X.K C) (iC : PySem.W.findIn X.K (.ref C) "__init__" = some (some (.ref fI))) (tI : PySem.W.typeIn X.K (.ref fI) = some (.type "function"))
    (F1 : FnOk X.prog X.w X.K X.mg X.base CX k fI fd ps sp) (hr : Room (k + 1) X.A) (hb : Binds X.K fd ps ds) (hd : Vals dvs ds) (hx : Passes CX X (fun _ _ _ => False)) (hg : Gl X x) (hm : X.mg x = some (.ref C)) (ha : PA X (e :: es) ta)
    (hdb : (x == ("__debug__" : Str)) = false := by decide) (he : starEach (e :: es) X.env = (false, eval e X.env) :: starEach es X.env := by rfl) (hpl : (backTo pos (starEach es X.env)).any (·.1) = false := by rfl) :
    PE X (.Call (.Name x p) (e :: es) [] pos) (tMkE C sp dvs ta) := by
  refine ⟨fun pins s σ H Q I h => ?_⟩
  obtain ⟨nm, q, N, bs, bm, sn, sub, ab, col, dd, k0, k1, k2, k3, k5, hC, hbm⟩ := T.cls
  refine wpAny_Call_Name_kw (ld_glob I hg hm ?_ hdb)
  refine PySem.W.callWith_K (h₀ := X.base) I.ok.mod.kin T.kC (thn (ha.run pos pins s σ H _ I h) fun us s1 ⟨vs, H1, I1, r1, hz, q1⟩ => ⟨I1.kIn, ?_⟩) he hpl
  show wpAny _ _ (call (.ref C) us) _ _ _
  obtain ⟨hp, g, dr, tk, os⟩ := s1
  have hsz : hp.objs.size ≤ hp.objs.size + 1 := Nat.le_succ _
  have hn : H1 (hp.objs.size + 1) = none := I1.hok.fresh hsz
  have hq := q1 (hp.objs.size + 1) hn
  have kk : ∀ b o, hp.get? b = some o → ((hp.push (PySem.W.kdv_tup us)).push (PySem.HandSPX.excO C hp.objs.size)).get? b = some o := fun b o e => Heap.get?_push_of_some _ (Heap.get?_push_of_some _ e)
  have hget : ((hp.push (PySem.W.kdv_tup us)).push (PySem.HandSPX.excO C hp.objs.size)).get? (hp.objs.size + 1) = some (PySem.HandSPX.excO C hp.objs.size) := by heap_get
  have I2 : Inv X pins σ (upd H1 (hp.objs.size + 1) (exo (hp.objs.size + 1) C none)) ⟨(hp.push (PySem.W.kdv_tup us)).push (PySem.HandSPX.excO C hp.objs.size), g, dr, tk, os⟩ :=
    I1.laid (t' := tk) (a := hp.objs.size + 1) (o := exo (hp.objs.size + 1) C none) (h' := (hp.push (PySem.W.kdv_tup us)).push (PySem.HandSPX.excO C hp.objs.size)) kk hsz (exo_ok hget)
  have r2 : Vals (V.ref (hp.objs.size + 1) :: (vs ++ dvs)) (Value.ref (hp.objs.size + 1) :: (us ++ ds)) := .cons rfl (r1.append hd)
  have hl : (Value.ref (hp.objs.size + 1) :: us ++ ds).length = ps.length := by
    have e := r2.length
    rw [F1.len _ _ _ _ hq] at e
    exact e.symm
  have hus : us.length ≤ sizeLine := by
    rw [← Paired.length r1, sizeLine_eq]
    omega
  refine wpAny_call (PySem.HandSPX.call_own F.excBase_ValueError (fun Y => PySem.HandSPX.refsVE_contains Y bm hbm) (I1.kIn _ _ hC) (PySem.W.looks_findIn I1.kIn iC) (fun self => PySem.W.bind_fn I1.kIn self tI) hus
    (codeAny_mono (F1.run _ X.stack _ _ ⟨Value.ref (hp.objs.size + 1) :: us, []⟩ (Value.ref (hp.objs.size + 1) :: (us ++ ds)) _ _ (fun _ _ _ => False) (hr.make C us []) (I2.env0.make C us []) (hb _ (Value.ref (hp.objs.size + 1) :: us) I2.kIn hl) r2 hq) fun r s' hq' => ?_))
  cases r with
  | error er => exact hx pins σ _ _ er s' I2 hq'
  | ok fl =>
    cases fl with
    | ret u =>
      obtain ⟨v, H', I3, rv, ev, q3⟩ := I2.after hq'
      subst ev
      exact ⟨rv, ⟨V.ref (hp.objs.size + 1), H', I3, rfl, q3⟩⟩
    | next => exact False.elim hq'
    | brk => exact False.elim hq'
    | cont => exact False.elim hq'
/-- e.n -/
def tXo (C : Addr) (n : Str) (te : TE) : TE := fun σ H Q => te σ H fun x H1 => ∃ a d fs v, x = .ref a ∧ ExAt H1 a C d fs ∧ fs.lookup n = some v ∧ Q v H1
theorem pe_xo {C : Addr} {n : Str} (T : XfC X.K C) (hno : PySem.W.findIn X.K (.ref C) n = some none) (he : PE X e te) (hb : attributeBase e n X.env (eval e X.env) = eval e X.env := by rfl) : PE X (.Attribute e n pos) (tXo C n te) := by
  refine ⟨fun pins s σ H Q I h => ?_⟩
  refine attr_of hb (thn (he.run pins s σ H _ I h) fun u s1 ⟨x, H1, I1, rx, a, d, fs, v, ex, T1, l, q⟩ => ?_)
  subst ex
  obtain rfl : u = Value.ref a := rx
  obtain ⟨t1, hoe⟩ := exo_at I1.hok T1.e
  obtain ⟨mA, hns, hr⟩ := exd_at I1.hok T1.d
  obtain ⟨od, ho, hl⟩ := lookIn_ns hns
  obtain ⟨u, hu, ru⟩ := RelO.some_of (v := v) (o := mA n) (by rw [← l]; exact hr n)
  have J : PySem.W.InstAt s1.heap a _ C (some od) := ⟨hoe, rfl, rfl, ho⟩
  exact HandSPX.exc_get I1.kIn J T.ga T.gg T.exC (PySem.W.findObj_own T.hdC hno rfl (by rw [hl, hu])) (handed_of ru) ⟨v, H1, I1.tok _, ru, q⟩
/-- isinstance(e, c) -/
theorem call_isEO {D : Addr} (C : ExcC X.K D) : CallR X (.builtin "isinstance") (fun xs H Q => ∃ a d fs c cv b, xs = [.ref a, c] ∧ ExAt H a D d fs ∧ (∀ u, RelV c u → u = cv) ∧ PySem.W.kitOne X.K (.ref D) cv = some b ∧ Q (.bl b) H) := by
  intro pins s σ H xs us Q I r h
  obtain ⟨a, d, fs, c, cv, b, rfl, T1, hcv, e, q⟩ := h
  cases r with
  | cons rx rr =>
    cases rr with
    | cons rt rr =>
      cases rr
      cases rx
      have ec := hcv _ rt
      subst ec
      obtain ⟨t1, hoe⟩ := exo_at I.hok T1.e
      obtain ⟨mA, hns, hr⟩ := exd_at I.hok T1.d
      obtain ⟨od, ho, hl⟩ := lookIn_ns hns
      have J : PySem.W.InstAt s.heap a _ D (some od) := ⟨hoe, rfl, rfl, ho⟩
      exact PySem.W.kia_one (PySem.W.xs_kitx C.hg C.hk C.hs C.hd C.ha C.hn C.ht C.hm) I.kIn J e (fun z => nomatch z) fun tk => ⟨.bl b, H, I.kept (t' := tk) fun _ _ z => z, rfl, q⟩
end
end XE
/-! own text: del xs[lo:hi] of a list -/
namespace XD
open PySem PySem.Spec PyProof.Rows L2
open Sem (wp)
theorem keep_out {α : Type} (sel : Nat → Bool) (a c : Nat) (hs : ∀ k, sel k = (decide (a ≤ k) && decide (k < c))) : ∀ (xs : List α) (n : Nat),
    (xs.zipIdx n).filterMap (fun p => if sel p.2 = true then none else some p.1) = xs.take (a - n) ++ xs.drop (max (c - n) (a - n))
  | [], n => by simp
  | x :: xs, n => by
    rw [List.zipIdx_cons, List.filterMap_cons, keep_out sel a c hs xs (n + 1)]
    have hsn := hs n
    by_cases h1 : a ≤ n
    · by_cases h2 : n < c
      · rw [show sel n = true by rw [hsn]; simp [h1, h2]]
        rw [show a - n = 0 by omega, show a - (n + 1) = 0 by omega]
        simp only [if_true, List.take_zero, List.nil_append]
        rw [show max (c - n) 0 = max (c - (n + 1)) 0 + 1 by omega, List.drop_succ_cons]
      · rw [show sel n = false by rw [hsn]; simp [h2]]
        rw [show a - n = 0 by omega, show a - (n + 1) = 0 by omega]
        simp only [List.take_zero, List.nil_append]
        rw [show max (c - n) 0 = 0 by omega, show max (c - (n + 1)) 0 = 0 by omega]
        simp
    · rw [show sel n = false by rw [hsn]; simp [h1]]
      simp only
      rw [show a - n = (a - (n + 1)) + 1 by omega, List.take_succ_cons, show max (c - n) (a - (n + 1) + 1) = max (c - (n + 1)) (a - (n + 1)) + 1 by omega, List.drop_succ_cons]
      rfl
section
variable {prog : Program} {w : World} {A : Around} {E : Value → Shared → Prop} {s : Shared}
set_option maxRecDepth 100000 in
theorem delItem_cut {l sl : Addr} {its : Array Value} {n : Nat} {vl vu : Value} {lo hi : Option Int} {a c : Nat} {Q : Unit → Shared → Prop}
    (e : s.heap.get? l = some { cls := .type "list", data := .seq its n }) (hs : s.heap.IsSliceOf sl vl vu .none) (pl : IsPart vl lo) (pu : IsPart vu hi) (hb : sliceBounds lo hi none its.size = ((a : Int), (c : Int), 1))
    (hz : its.size ≤ sizeLine) (h : ∀ f : Array Value → Array Value, f its = (its.toList.take a ++ its.toList.drop (max c a)).toArray → Q () { s with heap := s.heap.update l (Obj.mapSeq f) }) :
    wpAny (model prog w) A (delItem (.ref l) (.ref sl)) Q E s := by
  have tl : s.TypeIs (.ref l) "list" := ⟨_, e, rfl⟩
  obtain ⟨os, hos, hcs, hds⟩ := id hs
  have ts : s.TypeIs (.ref sl) "slice" := ⟨os, hos, hcs⟩
  have one : ¬ ((rawPart none == rawInt 0) = true) := Bool.false_ne_true
  refine wpAny_delItem_slot tl (by decide) F.slot_list_delitem (wpAny_call_entry F.slot_list_delitem tl F.entry_list_delitem ?_ (F.args_list_delitem_2 _ _))
  show wpAny _ _ (Builtin.List.listSubscript? (.ref sl) >>= _) _ _ s
  refine wpAny_bind ?_
  unfold Builtin.List.listSubscript?
  refine wpAny_bind (wpAny_specialOf ts slice_no_index ?_)
  simp only [Option.isNone_none, if_true]
  refine wpAny_pure ?_
  show wpAny _ _ (typeOf (.ref sl) >>= _) _ _ s
  refine wpAny_bind (wpAny_typeOf ts ?_)
  first
    | rw [if_neg (by decide)]
    | refine PySem.W.KFB.if_not (by decide) ?_
  rw [listSliceParts_eq]
  refine wpAny_bind (wpAny_bind (wpAny_field hos hds (x := .none) rfl (wpAny_bind (wpAny_listPart .none ?_))))
  rw [if_neg one]
  refine wpAny_bind (wpAny_field hos hds (x := vl) rfl (wpAny_bind (wpAny_listPart pl ?_)))
  refine wpAny_bind (wpAny_field hos hds (x := vu) rfl (wpAny_bind (wpAny_listPart pu (wpAny_pure ?_))))
  unfold Builtin.List.listItems
  refine wpAny_bind (wpAny_bind (wpAny_seqItems e rfl (wpAny_pure ?_)))
  refine wpAny_bind (wpAny_of_eq ((sliceIndices_raw lo hi none its.size (by simp)).trans (congrArg (pure : Int × Int × Int → Sem (Int × Int × Int)) hb)) ?_)
  refine wpAny_bind (wpAny_rule ?_)
  unfold Builtin.List.listUpdate
  have cut : ∀ sel : Nat → Bool, (∀ k, sel k = (decide (a ≤ k) && decide (k < c))) → (its.toList.zipIdx.filterMap fun p => if sel p.2 = true then none else some p.1).toArray = (its.toList.take a ++ its.toList.drop (max c a)).toArray := fun sel hsel => by
    rw [keep_out sel a c hsel its.toList 0]
    rfl
  have hsel : ∀ k : Nat, (if (1 : Int) > 0 then (decide ((a : Int) ≤ k) && decide ((k : Int) < c) && ((k : Int) - a) % 1 == 0) else (decide ((c : Int) < k) && decide ((k : Int) ≤ a) && ((a : Int) - k) % (-1) == 0)) = (decide (a ≤ k) && decide (k < c)) := fun k => by
    rw [if_pos (by decide)]
    simp
  have hcut := cut (fun k => if (1 : Int) > 0 then (decide ((a : Int) ≤ k) && decide ((k : Int) < c) && ((k : Int) - a) % 1 == 0) else (decide ((c : Int) < k) && decide ((k : Int) ≤ a) && ((a : Int) - k) % (-1) == 0)) hsel
  refine wpAny_bind (wpAny_updateSeq (hz := hz) (_hz' := ?z) e rfl (wpAny_bind (wpAny_letGo ?_)))
  · exact wpAny_pure ⟨.none, rfl, h _ hcut⟩
  case z =>
    refine Nat.le_trans (Nat.le_of_eq (congrArg Array.size hcut)) ?_
    rw [List.size_toArray, List.length_append, List.length_take, List.length_drop, Array.length_toList]
    omega
end
variable {X : Cx} {o : Expr} {to : TE} {lo hi : Option Expr} {tl th : TO} {tpos p2 pos : Pos}
theorem ps_delS (ho : PE X o to) (hl : PO X lo tl) (hu : PO X hi th) : PS X (.Delete [.Subscript o (.Slice lo hi none p2) tpos] pos)
    (fun D σ H => to σ H fun x H1 => tl σ H1 fun i H2 => th σ H2 fun j H3 => ∃ (l : Addr) (xs : List V) (a c : Nat), x = .ref l ∧ H3 l = some (.lst xs) ∧ sliceBounds i j none xs.length = ((a : Int), (c : Int), 1) ∧ D.nx σ (upd H3 l (.lst (xs.take a ++ xs.drop (max c a))))) := by
  refine ⟨fun pins s σ H D I h => ?_⟩
  refine wpAny_Delete (wpAny_deleteEach_cons (wpAny_delete_Subscript (thn (ho.run pins s σ H _ I h) fun v s1 ⟨x, H1, I1, rx, q1⟩ => ?_)))
  refine wpAny_Slice (thn (hl.run pins s1 σ H1 _ I1 q1) fun vl s2 ⟨i, H2, I2, pl, q2⟩ => thn (hu.run pins s2 σ H2 _ I2 q2) fun vu s3 ⟨j, H3, I3, pu, l, xs, a, c, ex, hH, hb, q⟩ => ?_)
  rw [evalPart_none]
  refine wpAny_pure ?_
  subst ex
  cases (show v = Value.ref l from rx)
  have I4 : Inv X pins σ H3 { s3 with heap := s3.heap.push { cls := .type "slice", data := .fields #[vl, vu, .none] } } := I3.kept (t' := s3.toks) fun b ob q => Heap.get?_push_of_some _ q
  obtain ⟨z, its, n, r, hlen, e⟩ := I4.lstM hH
  have hz : its.toArray.size ≤ sizeLine := by rw [List.size_toArray]; omega
  refine delItem_cut e (Heap.IsSliceOf.new ..) pl pu (a := a) (c := c) (by rw [List.size_toArray, ← hlen]; exact hb) hz fun f hf => ?_
  refine wpAny_deleteEach_nil ⟨σ, _, ?_, q⟩
  refine I4.lset (its' := its.take a ++ its.drop (max c a)) (t' := s3.toks) hH e hf (Vals.append (r.take _) (r.drop _)) ?_
  rw [List.length_append, List.length_take, List.length_drop]
  omega
end XD
/-! own text: list(x) of a text -/
namespace XL
open PySem PySem.Spec PyProof.Rows L2 PySem.W
open Sem (wp)
section
variable {prog : Program} {w : World} {A : Around} {E : Value → Shared → Prop} {s : Shared} {x : Str} {t : Tok}
theorem hint_text {Q : Bool → Shared → Prop} (h : Q false s) : wpAny (model prog w) A (Builtin.List.listLengthHint (.str x t)) Q E s := by
  have hT : s.TypeIs (.str x t) "str" := typeIs_str s x t
  unfold Builtin.List.listLengthHint
  refine wpAny_bind (wpAny_specialOf hT PySem.F.slot_str_len.lookup ?_)
  generalize hid : ("str.__len__" : String) = id1
  wp_delta
  rw [show splitId id1 = some ("str", "__len__") from by subst hid; decide +kernel]
  subst hid
  refine wpAny_bind (wpAny_isInstance (T := "str") (b := true) hT (by rw [isSubtype_type]; kernel_rfl) ?_)
  refine wpAny_ite_split (fun hab => absurd hab (by decide)) (fun _ => ?_)
  refine wpAny_ite_split (fun _ => ?_) (fun hab => absurd (by decide +kernel) hab)
  exact wpAny_bind (wpAny_typeOf hT (wpAny_pure h))
/-- the iterator that a text gives, whichever -/
theorem iter_text (hh : A.handled = none) : ∃ (oI : Obj) (W : Nat → Heap → Prop), (∀ (E : Value → Shared → Prop) (Q : Value → Shared → Prop), Q (.ref s.heap.objs.size) { s with heap := s.heap.push oI } → wpAny (model prog w) A (pyIter (.str x t)) Q E s) ∧
    Walks prog w A s.heap.objs.size [s.heap.objs.size] [s.heap.objs.size] x.cps.size (SignAt x) W ∧ W 0 (s.heap.push oI) := by
  cases ha : x.cps.all (· < 128)
  · exact ⟨_, _, fun E Q q => wpAny_pyIter_wide ha q, Walks.strWide hh _ x t, ⟨_, Heap.get?_push_size _ rfl, rfl, rfl⟩⟩
  · exact ⟨_, _, fun E Q q => wpAny_pyIter_ascii ha q, Walks.strAscii hh _ x t, ⟨_, Heap.get?_push_size _ rfl, rfl, rfl⟩⟩
theorem fill_text {R : Result → Shared → Prop} (hh : A.handled = none) (L : Addr) (res : Value) (c0 : Nat) (hL : s.heap.get? L = some { cls := .type "list", data := .seq #[] c0 }) (hn : x.cps.size ≤ sizeLine)
    (hR : ∀ h' tk acc c, (∀ b o, b ≠ L → s.heap.get? b = some o → h'.get? b = some o) → h'.get? L = some { cls := .type "list", dict := none, data := .seq acc c, slots := #[] } → ItemsOf (SignAt x) acc x.cps.size → R (.ok (.ret res)) { s with heap := h', toks := tk }) :
    wpAny (model prog w) A.in1 (Builtin.List.listExtendWith (.ref L) (.str x t) res)
      (fun fin s' => match fin with | .done f => R (.ok f) s' | .again c' => c'.quiet = true ∧ codeAny (model prog w) A c' R s') (fun e s' => R (.error e) s') s := by
  have hLI : L ≠ s.heap.objs.size := Nat.ne_of_lt (Heap.lt_size hL)
  have hLf : L ∉ [s.heap.objs.size] := by simpa using hLI
  obtain ⟨oI, St, hit, W, st⟩ := iter_text (prog := prog) (w := w) (A := A.in1) (s := s) (x := x) (t := t) hh
  have go : ∀ (h : Heap) (c1 tk : Nat), St 0 h → (∀ b o, b ≠ L → s.heap.get? b = some o → h.get? b = some o) → h.get? L = some { cls := .type "list", data := .seq #[] c1 } →
      codeAny (model prog w) A (.builtin "list.extend.loop" ⟨[.ref L, .ref s.heap.objs.size, res], []⟩) R { s with heap := h, toks := tk } := fun h c1 tk hst hk hL1 => by
    refine codeAny_extend_loopS W.toS hn L hLf res x.cps.size 0 _ #[] c1 rfl (Nat.zero_le _) hst hL1 (ItemsOf.nil _) fun s2 acc c hm hL2 hacc => ?_
    rw [Moved.eq_with hm]
    refine hR s2.heap s2.toks acc c (fun b o hb e => hm.heap b o (fun z => ?_) (hk b o hb e)) hL2 hacc
    rcases List.mem_cons.mp z with z | z
    · exact hb z
    · exact absurd (Heap.lt_size e) (by rw [List.mem_singleton.mp z]; exact Nat.lt_irrefl _)
  have hT : s.TypeIs (.str x t) "str" := typeIs_str s x t
  unfold Builtin.List.listExtendWith
  refine wpAny_bind (wpAny_typeOf (T := "str") hT ?_)
  have k1 : Builtin.List.listSameRef (.ref L) (.str x t) = false := rfl
  have k2 : (Value.type "str" == Value.type "list") = false := by decide
  have k3 : (Value.type "str" == Value.type "tuple") = false := by decide
  simp only [k1, k2, k3, Bool.or_false, Bool.false_eq_true, if_false]
  refine wpAny_bind (hit _ _ ?_)
  have g1 := Heap.get?_push_of_some oI hL
  refine wpAny_bind (wpAny_holding (hint_text ?_))
  refine wpAny_ite_split (fun _ => ?_) (fun _ => wpAny_pure ⟨plainId_quiet PySem.F.plain_extend_loop _, go _ c0 _ st (fun b o _ e => Heap.get?_push_of_some _ e) g1⟩)
  refine wpAny_bind (wpAny_rule (wpAny_bind ?_))
  show wpAny _ _ (updateSeq L (·.push .none) >>= fun _ => updateSeq L (·.pop)) _ _ _
  refine wpAny_bind (wpAny_updateSeq g1 rfl ?_)
  have g2 := Heap.get?_update_self (Obj.mapSeq (·.push Value.none)) g1 rfl
  refine wpAny_updateSeq (hz := by seq_fits) g2 rfl ?_
  have g3 := Heap.get?_update_self (Obj.mapSeq (·.pop)) g2 rfl
  refine wpAny_pure ⟨plainId_quiet PySem.F.plain_extend_loop _, go _ _ _ (W.frame 0 _ _ st fun b hb o e => ?_) (fun b o hb e => ?_) g3⟩
  · have hbL : L ≠ b := fun z => hLf (z ▸ hb)
    exact (Heap.get?_update_other _ _ hbL).trans ((Heap.get?_update_other _ _ hbL).trans e)
  · exact (Heap.get?_update_other _ _ (Ne.symm hb)).trans ((Heap.get?_update_other _ _ (Ne.symm hb)).trans (Heap.get?_push_of_some _ e))
theorem call_text {Q : Value → Shared → Prop} (hh : A.handled = none) (hn : x.cps.size ≤ sizeLine)
    (hQ : ∀ h' tk acc c, (∀ b o, s.heap.get? b = some o → h'.get? b = some o) → h'.get? s.heap.objs.size = some { cls := .type "list", dict := none, data := .seq acc c, slots := #[] } → ItemsOf (SignAt x) acc x.cps.size → Q (.ref s.heap.objs.size) { s with heap := h', toks := tk }) :
    wpAny (model prog w) A (call (.type "list") [.str x t]) Q E s := by
  refine callType_codes (Q₁ := fun ob s1 => ob = .ref s.heap.objs.size ∧ s1 = { s with heap := s.heap.push { cls := .type "list", data := .seq #[] } }) PySem.F.called_list (PySem.F.typeCall_list_1 _) PySem.F.entry_list_init
    (code_list_new _ ⟨rfl, rfl⟩) fun ob s1 h1 => ?_
  obtain ⟨rfl, rfl⟩ := h1
  have hL : (s.heap.push { cls := .type "list", data := .seq #[] }).get? s.heap.objs.size = some { cls := .type "list", data := .seq #[] } := Heap.get?_push_size _ rfl
  refine ⟨⟨_, hL, rfl⟩, PySem.F.args_list_init_2 _ _, ?_⟩
  show wpAny _ _ (do let old ← Builtin.List.listItems (.ref s.heap.objs.size); Builtin.List.listUpdate (.ref s.heap.objs.size) (fun _ => #[]); letGo old.toList.reverse; Builtin.List.listExtendWith (.ref s.heap.objs.size) (.str x t) .none) _ _ _
  refine wpAny_bind ?_
  unfold Builtin.List.listItems
  refine wpAny_bind (wpAny_seqItems hL rfl (wpAny_pure ?_))
  show wpAny _ _ (updateSeq s.heap.objs.size (fun _ => #[]) >>= fun _ => letGo (#[] : Array Value).toList.reverse >>= fun _ => Builtin.List.listExtendWith (.ref s.heap.objs.size) (.str x t) .none) _ _ _
  refine wpAny_bind (wpAny_updateSeq hL rfl ?_)
  have g2 := Heap.get?_update_self (Obj.mapSeq (fun _ => (#[] : Array Value))) hL rfl
  refine wpAny_bind (wpAny_letGo ?_)
  refine fill_text (A := A.in1) hh s.heap.objs.size .none _ g2 hn fun h' tk acc c hk hL2 hacc => ⟨rfl, hQ h' tk acc c (fun b o e => ?_) hL2 hacc⟩
  have hb : b ≠ s.heap.objs.size := Nat.ne_of_lt (Heap.lt_size e)
  exact hk b o hb ((Heap.get?_update_other _ _ (Ne.symm hb)).trans (Heap.get?_push_of_some _ e))
end
/-- the signs of a text, as texts -/
def signs (x : Str) : List Str := x.cps.toList.map fun c => ⟨#[c]⟩
theorem call_list_text {X : Cx} (hc : X.calm = true) : CallR X (.type "list") (fun xs H Q => ∃ x, xs = [.str x] ∧ x.length ≤ sizeLine ∧ ∀ l, H l = none → Q (.ref l) (upd H l (.lst ((signs x).map V.str)))) := by
  intro pins s σ H xs us Q I r h
  obtain ⟨x, rfl, hz, q⟩ := h
  obtain ⟨u, rfl, t, rfl⟩ := vals1 r
  have hz' : x.cps.size ≤ sizeLine := hz
  refine call_text (I.ok.hd hc) hz' fun h' tk acc c hk hL hacc => ?_
  refine ⟨.ref s.heap.objs.size, _, I.laid hk (Nat.le_refl _) (show ObjOk X.prog X.w _ h' _ (.lst ((signs x).map V.str)) from ⟨?_, acc.toList, c, ?_, ?_⟩), rfl, q _ (I.hok.fresh (Nat.le_refl _))⟩
  · rw [List.length_map]; unfold signs; rw [List.length_map, Array.length_toList]; exact hz'
  · refine vals_of_at (by rw [List.length_map]; unfold signs; rw [List.length_map, Array.length_toList, Array.length_toList, hacc.1]) fun j v u h1 h2 => ?_
    obtain ⟨cc, tt, e1, e2⟩ := hacc.2 j u (by rw [← Array.getElem?_toList]; exact h2)
    rw [List.getElem?_map] at h1
    unfold signs at h1
    rw [List.getElem?_map, Array.getElem?_toList, e1] at h1
    cases h1
    exact ⟨tt, e2⟩
  · simpa using hL
end XL
/-! own text: a call of a local name that holds one of several defs, with starred arguments or not, which may raise -/
namespace XS
open PySem PySem.Spec PyProof.Rows L2
/-- what the slot may hold: a def with its promise; what it raises is told at the slots -/
structure HeldX (P : Program) (w : World) (K : PySem.W.Frag) (mg : Str → Option Value) (base : Heap) (k : Nat) (f : Addr) (sp : Sp) : Prop where
  ex : ∃ (fd : FuncData) (ps : List Str), FnOk P w K mg base (L2.CX P w) k f fd ps sp ∧ PySem.W.keepIn K (.ref f) = true ∧ Binds K fd ps []
def tCallX (i : Nat) (S : Addr → Option Sp) (E : L2.St → XK) (t : TA) : TE := fun σ H Q => ∃ f sp, σ[i]? = some (some (.ref f)) ∧ S f = some sp ∧ t σ H fun vs H1 => sp vs H1 Q (E σ)
section
variable {X : Cx} {k i : Nat} {S : Addr → Option Sp} {E : L2.St → XK} {x : Str} {p pos : Pos} {e : Expr} {es : List Expr} {t : TA}
theorem pe_callX (A : ∀ f sp, S f = some sp → HeldX X.prog X.w X.K X.mg X.base k f sp) (hr : Room k X.A) (hN : X.N[i]? = some x) (hv : Vis X.env.scope x) (hx : ∀ σ, PassesAt (L2.CX X.prog X.w) X σ (E σ)) (ha : PA X (e :: es) t)
    (hdb : (x == ("__debug__" : Str)) = false := by decide) (hcd : (x == ("__classdict__" : Str)) = false := by decide)
    (he : starEach (e :: es) X.env = (false, eval e X.env) :: starEach es X.env := by rfl) (hpl : (backTo pos (starEach es X.env)).any (·.1) = false := by rfl) : PE X (.Call (.Name x p) (e :: es) [] pos) (tCallX i S E t) := by
  refine ⟨fun pins s σ H Q I h => ?_⟩
  obtain ⟨f, sp, hs, hS, ht⟩ := h
  obtain ⟨fd, ps, F, hk, hb⟩ := (A f sp hS).ex
  refine wpAny_Call_Name_kw (thn ((pe_var (pos := p) hN hv hdb hcd).run pins s σ H (fun v H1 => v = .ref f ∧ H1 = H) I ⟨.ref f, hs, rfl, rfl⟩) fun u s1 ⟨v, H1, I1, r1, q1⟩ => ?_)
  obtain ⟨rfl, rfl⟩ := q1
  cases r1
  refine PySem.W.callWith_K (h₀ := X.base) I.ok.mod.kin hk (thn (ha.run pos pins s1 σ _ _ I1 ht) fun us s2 ⟨vs, H2, I2, r, q⟩ => ⟨I2.kIn, ?_⟩) he hpl
  exact run_fnS F hr hb (hx σ) I2 r q
/-- x(e, .., *y) -/
theorem pe_callXS (A : ∀ f sp, S f = some sp → HeldX X.prog X.w X.K X.mg X.base k f sp) (hr : Room k X.A) (hN : X.N[i]? = some x) (hv : Vis X.env.scope x) (hx : ∀ σ, PassesAt (L2.CX X.prog X.w) X σ (E σ)) (ha : PA X (e :: es) t)
    (hdb : (x == ("__debug__" : Str)) = false := by decide) (hcd : (x == ("__classdict__" : Str)) = false := by decide)
    (he : starEach (e :: es) X.env = (false, eval e X.env) :: starEach es X.env := by rfl) (hst : (backTo pos (starEach es X.env)).any (·.1) = true := by rfl) : PE X (.Call (.Name x p) (e :: es) [] pos) (tCallX i S E t) := by
  refine ⟨fun pins s σ H Q I h => ?_⟩
  obtain ⟨f, sp, hs, hS, ht⟩ := h
  obtain ⟨fd, ps, F, hk, hb⟩ := (A f sp hS).ex
  refine wpAny_Call_Name_kw (thn ((pe_var (pos := p) hN hv hdb hcd).run pins s σ H (fun v H1 => v = .ref f ∧ H1 = H) I ⟨.ref f, hs, rfl, rfl⟩) fun u s1 ⟨v, H1, I1, r1, q1⟩ => ?_)
  obtain ⟨rfl, rfl⟩ := q1
  cases r1
  refine PySem.W.callWith_S2 (h₀ := X.base) I.ok.mod.kin hk (thn (ha.run pos pins s1 σ _ _ I1 ht) fun us s2 ⟨vs, H2, I2, r, q⟩ => ⟨I2.kIn, ?_⟩) he hst
  exact run_fnS F hr hb (hx σ) I2 r q
end
end XS
/-! own text: zip of a list and a tuple -/
namespace XZ
open PySem PySem.Spec PyProof.Rows L2
open PySem.Sem (wp)
abbrev mH1 (h : Heap) (l1 : Addr) : Heap := h.push { cls := .type "list_iterator", data := .fields #[.ref l1, .int 0 0] }
abbrev mH2 (h : Heap) (l1 l2 : Addr) : Heap := (mH1 h l1).push { cls := .type "tuple_iterator", data := .fields #[.ref l2, .int 0 0] }
abbrev mH3 (h : Heap) (l1 l2 : Addr) : Heap := (mH2 h l1 l2).push { cls := .type "tuple", data := .seq #[.ref h.objs.size, .ref (mH1 h l1).objs.size] }
abbrev mH4 (h : Heap) (l1 l2 : Addr) : Heap := (mH3 h l1 l2).push { cls := .type "tuple", data := .seq #[.none, .none] }
abbrev mH5 (h : Heap) (l1 l2 : Addr) : Heap := (mH4 h l1 l2).push { cls := .type "zip", data := .fields #[.none, .bool false, .bool false, .ref (mH2 h l1 l2).objs.size, .ref (mH3 h l1 l2).objs.size] }
theorem meets_new (l1 l2 : Addr) (xs ys : Array Value) :
    Meets (Builtin.«zip.__new__» ⟨[.type "zip", .ref l1, .ref l2], []⟩) (fun _ R s => s.heap.IsList l1 xs ∧ s.heap.IsTuple l2 ys ∧
      R (.ok (.ret (.ref (mH4 s.heap l1 l2).objs.size))) { s with heap := mH5 s.heap l1 l2 }) :=
  .of_wp fun prog w A R s h => by
    obtain ⟨hp, g, d, tk, os⟩ := s; obtain ⟨hl1, hl2, h⟩ := h
    have hsub := sub_zip
    have hL1 : Heap.IsList (Shared.heap ⟨hp, g, d, tk, os⟩) l1 xs := hl1
    have hL2 : Heap.IsTuple (Shared.heap ⟨hp.push { cls := .type "list_iterator", data := .fields #[.ref l1, .int 0 0] }, g, d, tk, os⟩) l2 ys := Heap.IsTuple.push hl2 _
    wp_walk using wpAny_pyIter_list hL1, wpAny_pyIter_tuple hL2
    exact ⟨_, rfl, h⟩
section
variable {prog : Program} {w : World} {A : Around} {E : Value → Shared → Prop} {s : Shared}
theorem call_zipM {l1 l2 : Addr} {xs ys : Array Value} {Q : Value → Shared → Prop} (hl1 : s.heap.IsList l1 xs) (hl2 : s.heap.IsTuple l2 ys)
    (h : ∀ h', IsZip h' (s.heap.objs.size + 4) (s.heap.objs.size + 2) (s.heap.objs.size + 3) .none → IsPair h' (s.heap.objs.size + 2) (.ref s.heap.objs.size) (.ref (s.heap.objs.size + 1)) →
      IsPair h' (s.heap.objs.size + 3) .none .none → h'.IsListIter s.heap.objs.size l1 0 → h'.IsTupleIter (s.heap.objs.size + 1) l2 0 → h'.objs.size = s.heap.objs.size + 5 →
      (∀ c o, s.heap.get? c = some o → h'.get? c = some o) → Q (.ref (s.heap.objs.size + 4)) { s with heap := h' }) :
    wpAny (model prog w) A (call (.type "zip") [.ref l1, .ref l2]) Q E s := by
  refine callType_new F.called_zip (by decide) (F.typeCall_zip_2 _ _) (F.newCall_zip_2 _ _) (fun obj => F.args_object_init_3 obj _ _) F.entry_zip_new
    (meets_new l1 l2 xs ys) ⟨hl1, hl2, ?_⟩
  have z1 : (mH1 s.heap l1).objs.size = s.heap.objs.size + 1 := Heap.size_push ..
  have z2 : (mH2 s.heap l1 l2).objs.size = s.heap.objs.size + 2 := by rw [Heap.size_push, z1]
  have z3 : (mH3 s.heap l1 l2).objs.size = s.heap.objs.size + 3 := by rw [Heap.size_push, z2]
  have z4 : (mH4 s.heap l1 l2).objs.size = s.heap.objs.size + 4 := by rw [Heap.size_push, z3]
  have z5 : (mH5 s.heap l1 l2).objs.size = s.heap.objs.size + 5 := by rw [Heap.size_push, z4]
  have g5 : (mH5 s.heap l1 l2).get? (mH4 s.heap l1 l2).objs.size = some _ := Heap.get?_push_size _ rfl
  have g4 : (mH5 s.heap l1 l2).get? (mH3 s.heap l1 l2).objs.size = some _ := Heap.get?_push_of_some _ (Heap.get?_push_size _ rfl)
  have g3 : (mH5 s.heap l1 l2).get? (mH2 s.heap l1 l2).objs.size = some _ := Heap.get?_push_of_some _ (Heap.get?_push_of_some _ (Heap.get?_push_size _ rfl))
  have g2 : (mH5 s.heap l1 l2).get? (mH1 s.heap l1).objs.size = some _ := Heap.get?_push_of_some _ (Heap.get?_push_of_some _ (Heap.get?_push_of_some _ (Heap.get?_push_size _ rfl)))
  have g1 : (mH5 s.heap l1 l2).get? s.heap.objs.size = some _ := Heap.get?_push_of_some _ (Heap.get?_push_of_some _ (Heap.get?_push_of_some _ (Heap.get?_push_of_some _ (Heap.get?_push_size _ rfl))))
  show _ ∧ _
  rw [z2, z3, z4] at g5
  rw [z1, z2] at g3
  rw [z3] at g4
  rw [z1] at g2
  rw [z4]
  exact ⟨⟨_, g5, rfl⟩, h _ g5 g3 g4 ⟨_, g1, rfl, rfl⟩ ⟨_, g2, rfl, rfl⟩ z5 fun c o x =>
    Heap.get?_push_of_some _ (Heap.get?_push_of_some _ (Heap.get?_push_of_some _ (Heap.get?_push_of_some _ (Heap.get?_push_of_some _ x))))⟩
end
/-- the list at a and the tuple at b, the items in new pairs -/
def ItzM (K : PySem.W.Frag) (a b : Addr) : It :=
  ⟨fun i H => ∃ (xs ys : List V) (x y : V), SqL K H a xs ∧ SqT K H b ys ∧ xs[i]? = some x ∧ ys[i]? = some y,
    fun i H v H' => ∃ T x y, v = .ref T ∧ H T = none ∧ H' = upd H T (.tup [x, y]) ∧ (∀ xs, SqL K H a xs → xs[i]? = some x) ∧ ∀ ys, SqT K H b ys → ys[i]? = some y,
    fun i H => ∃ xs ys : List V, SqL K H a xs ∧ SqT K H b ys ∧ xs.length = i ∧ ys.length = i⟩
theorem sep2 {a b z TI TO i1 i2 : Addr} (D : ZipApart z TI TO i1 i2 a b) : ZipSep2 z TI TO i1 i2 [i1, a] [i2, b] where
  TIz := D.TIz
  TOz := D.TOz
  TITO := D.TITO
  TIi1 := D.TIi1
  mem1 := by simp
  zf1 := by simp [D.i1z.symm, D.l1z.symm]
  Tf1 := by simp [D.TOi1, D.l1TO.symm]
  TIi2 := D.TIi2
  mem2 := by simp
  zf2 := by simp [D.i2z.symm, D.l2z.symm]
  Tf2 := by simp [D.TOi2, D.l2TO.symm]
  sep1_2 := by simp [D.i12, D.l2i1.symm]
  sep2_1 := by simp [D.i12.symm, D.l1i2.symm]
theorem turn_zipM {P : Program} {w : World} {K : PySem.W.Frag} {elts : List Expr} {kk : Nat} {tpos : Pos} {a b z TI TO i1 i2 : Addr} (D : ZipApart z TI TO i1 i2 a b) :
    Turn P w K (.Tuple elts kk tpos) (ItzM K a b) [z, TI, TO, i1, i2] z (fun i h => IsZip h z TI TO .none ∧ IsPair h TI (.ref i1) (.ref i2) ∧ (∃ x y, IsPair h TO x y) ∧ h.IsListIter i1 a i ∧ h.IsTupleIter i2 b i) where
  mem := by simp
  obj := fun i h st c hc => by
    obtain ⟨hz, hTI, ⟨x, y, hTO⟩, ⟨o1, e1, _, d1⟩, ⟨o2, e2, _, d2⟩⟩ := st
    have e' : c = z ∨ c = TI ∨ c = TO ∨ c = i1 ∨ c = i2 := by simpa using hc
    rcases e' with q | q | q | q | q
    · rw [q]; exact ⟨_, hz, fun v q => nomatch q⟩
    · rw [q]; exact ⟨_, hTI, fun v q => nomatch q⟩
    · rw [q]; exact ⟨_, hTO, fun v q => nomatch q⟩
    · rw [q]; exact ⟨o1, e1, fun v q => by rw [d1] at q; cases q⟩
    · rw [q]; exact ⟨o2, e2, fun v q => by rw [d2] at q; cases q⟩
  keep := fun i h h' st k => by
    obtain ⟨hz, hTI, ⟨x, y, hTO⟩, h1, h2⟩ := st
    exact ⟨k z (by simp) _ hz, k TI (by simp) _ hTI, ⟨x, y, k TO (by simp) _ hTO⟩, h1.at fun o q => k i1 (by simp) o q, h2.at fun o q => k i2 (by simp) o q⟩
  item := by
    intro X hP hw hK hc i pins s σ H E I hf st hg
    subst hP hw hK
    obtain ⟨hz, hTI, ⟨x0, y0, hTO⟩, h1, h2⟩ := st
    obtain ⟨xs, ys, x, y, hqx, hqy, hx, hy⟩ := hg
    obtain ⟨its, rv, p, _⟩ := I.list hqx
    obtain ⟨its2, rv2, p2, _⟩ := I.tuple hqy
    obtain ⟨u, hu, ru⟩ := rv.get hx
    obtain ⟨u2, hu2, ru2⟩ := rv2.get hy
    have hzl : z < s.heap.objs.size := Heap.lt_size hz
    have lt1 : i < its.toArray.size := by
      have := (List.getElem?_eq_some_iff.mp hu).1
      simpa using this
    have lt2 : i < its2.toArray.size := by
      have := (List.getElem?_eq_some_iff.mp hu2).1
      simpa using this
    refine PySem.wpAny_pyNext_zipD2_item (sep2 D) (Draws.list (A := X.A.in1) (I.ok.hd hc) i1 a D.l1i1 its.toArray) (Draws.tuple (A := X.A.in1) (I.ok.hd hc) i2 b D.l2i2 its2.toArray) hz hTI hTO ⟨h1, p.isList⟩ ⟨h2, p2⟩ lt1 lt2 fun x1 x2 h' tk e1 e2 z' TO' st1 st2 hT hsz hk => ?_
    have ex1 : x1 = u := by
      have h3 : its[i]? = some x1 := by simpa using e1
      rw [hu] at h3
      exact (Option.some.inj h3).symm
    have ex2 : x2 = u2 := by
      have h3 : its2[i]? = some x2 := by simpa using e2
      rw [hu2] at h3
      exact (Option.some.inj h3).symm
    subst ex1 ex2
    refine ⟨_, rfl, wpAny_letOwnedTupleGo_zip (s := { s with heap := h', toks := tk }) z' fun h'' z'' sb => ?_⟩
    have hT2 : h''.get? s.heap.objs.size = some { cls := .type "tuple", data := .seq #[x1, x2] } := (sb.2 _ (Nat.ne_of_gt hzl)).trans hT
    have new : ObjOk X.prog X.w (upd H s.heap.objs.size (.tup [x, y])) h'' s.heap.objs.size (.tup [x, y]) :=
      ⟨by show 2 ≤ sizeLine; decide, [x1, x2], .cons ru (.cons ru2 .nil), ⟨_, hT2, rfl, _, rfl⟩⟩
    have I1 : Inv X pins σ (upd H s.heap.objs.size (.tup [x, y])) { s with heap := h'', toks := tk } :=
      I.turnedNew (t' := tk) (ch := [z, TI, TO, i1, i2]) (fun c o hb q => (sb.2 c (fun q' => hb (by simp [q']))).trans (hk c o (fun q' => hb (by simp [q'])) (fun q' => hb (by simp [q'])) (fun q' => hb (by simp [q'])) (fun q' => hb (by simp [q'])) q)) hf (Nat.le_refl _) new
    refine ⟨.ref s.heap.objs.size, _, I1, rfl, ⟨_, x, y, rfl, I.hok.fresh (Nat.le_refl _), rfl, fun l hl => by rw [I.list_inj hl hqx]; exact hx, fun l hl => by rw [I.tuple_inj hl hqy]; exact hy⟩, ⟨z'', ?_, ⟨x1, x2, ?_⟩, ?_, ?_⟩, fun c hcm => ?_⟩
    · exact (sb.2 _ D.TIz).trans (hk _ _ D.TIz D.TITO D.TIi1 D.TIi2 hTI)
    · exact (sb.2 _ D.TOz).trans TO'
    · exact st1.1.at fun o q => (sb.2 _ D.i1z).trans q
    · exact st2.1.at fun o q => (sb.2 _ D.i2z).trans q
    · have hlt : c < s.heap.objs.size := by
        have e' : c = z ∨ c = TI ∨ c = TO ∨ c = i1 ∨ c = i2 := by simpa using hcm
        rcases e' with q | q | q | q | q
        · rw [q]; exact hzl
        · rw [q]; exact Heap.lt_size hTI
        · rw [q]; exact Heap.lt_size hTO
        · rw [q]; obtain ⟨_, e1, _⟩ := h1; exact Heap.lt_size e1
        · rw [q]; obtain ⟨_, e2, _⟩ := h2; exact Heap.lt_size e2
      rw [upd_ne (Nat.ne_of_lt hlt)]
      exact (hf c hcm).1
  done := by
    intro X hP hw hK hc i pins s σ H E I hf st hg
    subst hP hw hK
    obtain ⟨hz, hTI, ⟨x0, y0, hTO⟩, h1, h2⟩ := st
    obtain ⟨xs, ys, hqx, hqy, l1, l2⟩ := hg
    obtain ⟨its, rv, p, _⟩ := I.list hqx
    obtain ⟨its2, rv2, p2, _⟩ := I.tuple hqy
    have m1 := rv.length
    have m2 := rv2.length
    have n1 : its.toArray.size = i := by simp; omega
    have n2 : its2.toArray.size = i := by simp; omega
    exact PySem.wpAny_pyNext_zipD2_end (sep2 D) (Draws.list (A := X.A.in1) (I.ok.hd hc) i1 a D.l1i1 its.toArray) (Draws.tuple (A := X.A.in1) (I.ok.hd hc) i2 b D.l2i2 its2.toArray) hz hTI hTO ⟨h1, p.isList⟩ ⟨h2, p2⟩ (Nat.le_of_eq n1.symm) (Nat.le_of_eq n2.symm) (.inl n1.symm) fun h' tk hk => ⟨rfl, I.turnedL (t' := tk) (ch := [z, TI, TO, i1, i2]) (fun c o hb q =>
      hk c o (fun q' => hb (by simp [q'])) (fun q' => hb (by simp [q'])) (fun q' => hb (by simp [q'])) (fun q' => hb (by simp [q'])) q) hf⟩
  self := fun A i s Q E st h => wpAny_pyIter_zip st.1 h
def iZipM (K : PySem.W.Frag) (ta : TA) : TI := fun σ H R => ta σ H fun vs H1 => ∃ a b xs ys, vs = [.ref a, .ref b] ∧ SqL K H1 a xs ∧ SqT K H1 b ys ∧ R (ItzM K a b) H1
theorem pi_zipM {X : Cx} {e e2 : Expr} {ta : TA} {p pos tpos : Pos} {elts : List Expr} {kk : Nat} (hg : Gl X "zip") (hm : X.mg "zip" = none) (ha : PA X [e, e2] ta)
    (hs : starEach [e, e2] X.env = (false, eval e X.env) :: starEach [e2] X.env := by rfl) (hpl : (backTo pos (starEach [e2] X.env)).any (·.1) = false := by rfl) :
    PI X (.Tuple elts kk tpos) (.Call (.Name "zip" p) [e, e2] [] pos) (iZipM X.K ta) := by
  refine ⟨fun pins s σ H R I h => ?_⟩
  refine Call_ (ld_blt I hg hm PyProof.Rows.boot_zip (PyProof.Rows.callWith_type1 (thn (ha.run pos pins s σ H _ I h) fun us s1 ⟨vs, H1, I1, r1, q1⟩ => ?_) hs hpl))
  obtain ⟨a, b, xs, ys, ex, hqx, hqy, q⟩ := q1
  subst ex
  cases r1 with
  | cons r rr =>
    cases rr with
    | cons r' rr =>
      cases rr
      cases r
      cases r'
      have fresh5 : ∀ c, c ∈ [s1.heap.objs.size + 4, s1.heap.objs.size + 2, s1.heap.objs.size + 3, s1.heap.objs.size, s1.heap.objs.size + 1] → FpOk X pins H1 c := fun c hcm => by
        have e' : c = s1.heap.objs.size + 4 ∨ c = s1.heap.objs.size + 2 ∨ c = s1.heap.objs.size + 3 ∨ c = s1.heap.objs.size ∨ c = s1.heap.objs.size + 1 := by simpa using hcm
        have hle : s1.heap.objs.size ≤ c := by
          rcases e' with z | z | z | z | z
          · rw [z]; exact Nat.le_add_right _ _
          · rw [z]; exact Nat.le_add_right _ _
          · rw [z]; exact Nat.le_add_right _ _
          · rw [z]; exact Nat.le_refl _
          · rw [z]; exact Nat.le_add_right _ _
        exact I1.fpOk hle (I1.hok.fresh hle)
      obtain ⟨its, rv, p1, _⟩ := I1.list hqx
      obtain ⟨its2, rv2, p2, _⟩ := I1.tuple hqy
      obtain ⟨o2, ho2, _⟩ := id p2
      refine call_zipM p1.isList (show s1.heap.IsTuple b its2.toArray from p2) fun h' hz hTI hTO h1 h2 hsz hk => wpAny_pyIter_zip hz ?_
      have I2 : Inv X pins σ H1 { s1 with heap := h' } := I1.kept (t' := s1.toks) hk
      exact ⟨s1.heap.objs.size + 4, [s1.heap.objs.size + 4, s1.heap.objs.size + 2, s1.heap.objs.size + 3, s1.heap.objs.size, s1.heap.objs.size + 1], _, _, H1, rfl, I2, turn_zipM (PySem.W.ktu_apart s1.heap.objs.size a b p1.lt (Heap.lt_size ho2)), ⟨hz, hTI, ⟨_, _, hTO⟩, h1, h2⟩, fresh5, q⟩
theorem for_zipM {K : PySem.W.Frag} {a b : Addr} {xs ys : List V} {g : TG} {tb : TS} {D : Ends} {σ : L2.St} {H : Hp} (hl : xs.length = ys.length) (Pv : Nat → L2.St → Hp → Prop) (h0 : Pv 0 σ H) (hq : ∀ i σ H, Pv i σ H → SqL K H a xs ∧ SqT K H b ys)
    (hs : ∀ (i : Nat) (x y : V) (T : Addr) (σ : L2.St) (H : Hp), xs[i]? = some x → ys[i]? = some y → Pv i σ H → H T = none → g (.ref T) σ (upd H T (.tup [x, y])) fun σ2 H2 => tb { D with nx := Pv (i + 1), ct := Pv (i + 1), bk := D.nx } σ2 H2) (hd : ∀ σ H, Pv xs.length σ H → D.nx σ H) :
    ∃ W : Nat → Nat → L2.St → Hp → Prop, (∃ m, W 0 m σ H) ∧ ∀ i m σ H, W i m σ H →
      ((ItzM K a b).stop i H ∧ D.nx σ H) ∨ ((ItzM K a b).go i H ∧ ∃ N : L2.St → Hp → Prop, (∀ σ' H', N σ' H' → ∃ m', m' < m ∧ W (i + 1) m' σ' H') ∧ ∀ v H', (ItzM K a b).yld i H v H' → g v σ H' fun σ2 H2 => tb { D with nx := N, ct := N, bk := D.nx } σ2 H2) := by
  refine ⟨fun i m σ H => m = xs.length - i ∧ i ≤ xs.length ∧ Pv i σ H, ⟨xs.length, rfl, Nat.zero_le _, h0⟩, ?_⟩
  rintro i m σ H ⟨rfl, hi, p⟩
  obtain ⟨qx, qy⟩ := hq i σ H p
  by_cases hlt : i < xs.length
  · have hx : xs[i]? = some xs[i] := List.getElem?_eq_getElem hlt
    have hlt2 : i < ys.length := by omega
    have hy : ys[i]? = some ys[i] := List.getElem?_eq_getElem hlt2
    refine .inr ⟨⟨xs, ys, _, _, qx, qy, hx, hy⟩, Pv (i + 1), fun σ' H' p' => ⟨xs.length - (i + 1), by omega, rfl, hlt, p'⟩, fun v H' y => ?_⟩
    obtain ⟨T, x', y', rfl, hT, rfl, f1, f2⟩ := y
    exact hs i x' y' T σ H (f1 xs qx) (f2 ys qy) p hT
  · have e : i = xs.length := by omega
    subst e
    exact .inl ⟨⟨xs, ys, qx, qy, rfl, hl.symm⟩, hd σ H p⟩
end XZ
namespace XQ
open PySem PySem.Spec PyProof.Rows L2 CwR PySem.StrLaws
section
variable {P : Program} {w : World} {K : PySem.W.Frag} {mg : Str → Option Value} {base : Heap}
/-- as Fun.ok; a token is out when the body begins -/
theorem okT {x qual : Str} {st : Stmt} {f : Addr} {fd : FuncData} {N ps : List Str} {k : Nat} {sp : Sp} (F : Fun K x qual st f fd) (S : FnScope N ps (defScope st)) (hnc : ∀ y ∈ (defScope st).names, y.2 ≠ .cell) (hps : 1 ≤ ps.length) (len : ∀ vs H Q E, sp vs H Q E → vs.length = ps.length)
    (hbody : ∀ (cdv : Value) (A : Around) (outer : List Env) (s : Shared) (H : Hp) (vs : List V) (Q : VK) (E : XK), Room k (A.deeper (envOfC qual (defScope st) s.heap.objs.size f cdv)) → sp vs H Q E →
      ∃ t, PSsT (cxOf CX0 P w K mg base N qual (defScope st) f cdv A outer s H E) (defBody st) t ∧ t { nx := fun _ H' => Q .non H', rt := Q } (start N vs) H) : FnOk P w K mg base CX0 (k + 1) f fd ps sp := by
  obtain ⟨oc, od, kV, doc, pm, an, cdv, ct, osl, rfl, lk, hcd⟩ := F.ex
  exact fn_ofT lk hcd S hnc hps len fun A outer s H vs Q E hr hsp => hbody cdv A outer s H vs Q E hr hsp
end
section
variable {X : Cx}
theorem pst_set {i : Nat} {x : Str} {e : Expr} {te : TE} {pos pos' : Pos} (hN : X.N.Nodup) (hi : X.N[i]? = some x) (hx : Loc X.env.scope x) (he : PET X e te) (hs : swapsWith e (some (.Name x pos')) pos.line X.env = pure false := by rfl) (hf : X.fn x = true ∨ X.env.scope.names.lookup x = some .local := by first | exact .inl rfl | exact .inr rfl | assumption) :
    PST X (.Assign [.Name x pos'] e pos) (tAsg te (gName i)) := by
  intro pins s σ H D h0 I h
  refine wpAny_Assign_Name (thn (he pins s σ H _ h0 I h) fun v s1 ⟨y, H1, I1, r1, q1⟩ => ?_) hs
  exact store_ok I1 hN hi hx r1 (fun s2 I2 => ⟨_, H1, I2, q1⟩) hf
end
/-- a text as it is quoted -/
def qText (x : Str) : Str := ("\"" : Str) ++ Txt.replace (Txt.replace (Txt.replace x "\\" "\\\\") "\"" "\\\"") "\n" "\\n" ++ ("\"" : Str)
def escC (c : Nat) : List Nat := if c = 92 then [92, 92] else if c = 34 then [92, 34] else if c = 10 then [92, 110] else [c]
theorem repl_one (c : Nat) (z : List Nat) : ∀ l : List Nat, replL [c] z l = l.flatMap fun d => if d = c then z else [d]
  | [] => replL_nil
  | d :: r => by
    by_cases h : d = c
    · subst h
      rw [replL_hit (by simp) (by simp), List.flatMap_cons, if_pos rfl, ← repl_one d z r]
      rfl
    · rw [replL_miss (by simpa using h), List.flatMap_cons, if_neg h, ← repl_one c z r]
      rfl
theorem qText_list (x : Str) : (qText x).cps.toList = 34 :: (x.cps.toList.flatMap escC ++ [34]) := by
  have app : ∀ a b : Str, (a ++ b).cps.toList = a.cps.toList ++ b.cps.toList := fun a b => by
    show (a.cps ++ b.cps).toList = _
    rw [Array.toList_append]
  unfold qText
  rw [app, app, replace_list (by decide +kernel), replace_list (by decide +kernel), replace_list (by decide +kernel)]
  rw [show (("\n" : Str)).cps.toList = [10] by decide +kernel, show (("\\n" : Str)).cps.toList = [92, 110] by decide +kernel, show (("\"" : Str)).cps.toList = [34] by decide +kernel, show (("\\\"" : Str)).cps.toList = [92, 34] by decide +kernel, show (("\\" : Str)).cps.toList = [92] by decide +kernel, show (("\\\\" : Str)).cps.toList = [92, 92] by decide +kernel]
  rw [repl_one, repl_one, repl_one, List.flatMap_assoc, List.flatMap_assoc]
  show 34 :: ([] ++ _ ++ _) = _
  rw [List.nil_append]
  congr 3
  funext d
  unfold escC
  by_cases h1 : d = 92
  · subst h1; rfl
  · by_cases h2 : d = 34
    · subst h2; rfl
    · by_cases h3 : d = 10
      · subst h3; rfl
      · simp [h1, h2, h3]
end XQ
namespace My
open PySem L2 SX XT XS XE XD XL
def top (i : Nat) : Stmt := PySem.Challenge.pw_livequill_k23_numbers_and_bases.main.body.getD i (.Pass ⟨0, 0, 0, 0⟩)
abbrev s_tagged : Stmt := top 12
theorem sc_tagged : FnScope ["key"] ["key"] (defScope s_tagged) := ⟨rfl, rfl, rfl, by decide +kernel, rfl, by decide +kernel, by decide +kernel⟩
abbrev s_kind_of : Stmt := top 16
theorem sc_kind_of : FnScope ["store", "value"] ["store", "value"] (defScope s_kind_of) := ⟨rfl, rfl, rfl, by decide +kernel, rfl, by decide +kernel, by decide +kernel⟩
abbrev s_kind_of_thing : Stmt := top 17
theorem sc_kind_of_thing : FnScope ["thing"] ["thing"] (defScope s_kind_of_thing) := ⟨rfl, rfl, rfl, by decide +kernel, rfl, by decide +kernel, by decide +kernel⟩
abbrev s_is_true : Stmt := top 18
theorem sc_is_true : FnScope ["value"] ["value"] (defScope s_is_true) := ⟨rfl, rfl, rfl, by decide +kernel, rfl, by decide +kernel, by decide +kernel⟩
abbrev s_equal : Stmt := top 19
theorem sc_equal : FnScope ["x", "y"] ["x", "y"] (defScope s_equal) := ⟨rfl, rfl, rfl, by decide +kernel, rfl, by decide +kernel, by decide +kernel⟩
abbrev s_is_key : Stmt := top 20
theorem sc_is_key : FnScope ["value"] ["value"] (defScope s_is_key) := ⟨rfl, rfl, rfl, by decide +kernel, rfl, by decide +kernel, by decide +kernel⟩
abbrev s_check_size : Stmt := top 24
theorem sc_check_size : FnScope ["size"] ["size"] (defScope s_check_size) := ⟨rfl, rfl, rfl, by decide +kernel, rfl, by decide +kernel, by decide +kernel⟩
abbrev s_is_bounded : Stmt := top 25
theorem sc_is_bounded : FnScope ["number"] ["number"] (defScope s_is_bounded) := ⟨rfl, rfl, rfl, by decide +kernel, rfl, by decide +kernel, by decide +kernel⟩
abbrev s_checked_integer : Stmt := top 26
theorem sc_checked_integer : FnScope ["number"] ["number"] (defScope s_checked_integer) := ⟨rfl, rfl, rfl, by decide +kernel, rfl, by decide +kernel, by decide +kernel⟩
abbrev s_check_count : Stmt := top 27
theorem sc_check_count : FnScope ["values", "wanted"] ["values", "wanted"] (defScope s_check_count) := ⟨rfl, rfl, rfl, by decide +kernel, rfl, by decide +kernel, by decide +kernel⟩
abbrev s_check_arguments : Stmt := top 28
theorem sc_check_arguments : FnScope ["store", "values", "kinds", "value", "kind"] ["store", "values", "kinds"] (defScope s_check_arguments) := ⟨rfl, rfl, rfl, by decide +kernel, rfl, by decide +kernel, by decide +kernel⟩
abbrev s_check_kind : Stmt := top 29
theorem sc_check_kind : FnScope ["store", "value", "kind"] ["store", "value", "kind"] (defScope s_check_kind) := ⟨rfl, rfl, rfl, by decide +kernel, rfl, by decide +kernel, by decide +kernel⟩
abbrev s_check_alike : Stmt := top 30
theorem sc_check_alike : FnScope ["store", "values", "value"] ["store", "values"] (defScope s_check_alike) := ⟨rfl, rfl, rfl, by decide +kernel, rfl, by decide +kernel, by decide +kernel⟩
abbrev s_copy_of : Stmt := top 32
theorem sc_copy_of : FnScope ["store", "value", "copies", "result", "at"] ["store", "value"] (defScope s_copy_of) := ⟨rfl, rfl, rfl, by decide +kernel, rfl, by decide +kernel, by decide +kernel⟩
abbrev s_is_holder : Stmt := top 34
theorem sc_is_holder : FnScope ["store", "value"] ["store", "value"] (defScope s_is_holder) := ⟨rfl, rfl, rfl, by decide +kernel, rfl, by decide +kernel, by decide +kernel⟩
abbrev s_fill : Stmt := top 35
theorem sc_fill : FnScope ["copies", "original", "thing", "copy", "key", "value", "part"] ["copies", "original"] (defScope s_fill) := ⟨rfl, rfl, rfl, by decide +kernel, rfl, by decide +kernel, by decide +kernel⟩
abbrev s_same : Stmt := top 36
theorem sc_same : FnScope ["store", "x", "y", "compared", "pairs", "one", "other", "inner"] ["store", "x", "y"] (defScope s_same) := ⟨rfl, rfl, rfl, by decide +kernel, rfl, by decide +kernel, by decide +kernel⟩
abbrev s_pairs_within : Stmt := top 37
theorem sc_pairs_within : FnScope ["thing", "match", "key", "_", "value"] ["thing", "match"] (defScope s_pairs_within) := ⟨rfl, rfl, rfl, by decide +kernel, rfl, by decide +kernel, by decide +kernel⟩
abbrev s_raised : Stmt := top 43
theorem sc_raised : FnScope ["number", "exponent", "power", "_"] ["number", "exponent"] (defScope s_raised) := ⟨rfl, rfl, rfl, by decide +kernel, rfl, by decide +kernel, by decide +kernel⟩
abbrev s_small_power : Stmt := top 44
theorem sc_small_power : FnScope ["number", "exponent"] ["number", "exponent"] (defScope s_small_power) := ⟨rfl, rfl, rfl, by decide +kernel, rfl, by decide +kernel, by decide +kernel⟩
abbrev s_root_of : Stmt := top 45
theorem sc_root_of : FnScope ["number"] ["number"] (defScope s_root_of) := ⟨rfl, rfl, rfl, by decide +kernel, rfl, by decide +kernel, by decide +kernel⟩
abbrev s_check_base : Stmt := top 46
theorem sc_check_base : FnScope ["base"] ["base"] (defScope s_check_base) := ⟨rfl, rfl, rfl, by decide +kernel, rfl, by decide +kernel, by decide +kernel⟩
abbrev s_written_in : Stmt := top 47
theorem sc_written_in : FnScope ["number", "base", "digits", "rest"] ["number", "base"] (defScope s_written_in) := ⟨rfl, rfl, rfl, by decide +kernel, rfl, by decide +kernel, by decide +kernel⟩
abbrev s_read_in : Stmt := top 48
theorem sc_read_in : FnScope ["text", "base", "digits", "places", "number", "place", "sign"] ["text", "base"] (defScope s_read_in) := ⟨rfl, rfl, rfl, by decide +kernel, rfl, by decide +kernel, by decide +kernel⟩
abbrev s_place_of_digit : Stmt := top 49
theorem sc_place_of_digit : FnScope ["sign", "capital"] ["sign"] (defScope s_place_of_digit) := ⟨rfl, rfl, rfl, by decide +kernel, rfl, by decide +kernel, by decide +kernel⟩
abbrev s_make_list : Stmt := top 51
theorem sc_make_list : FnScope ["store", "values"] ["store", "values"] (defScope s_make_list) := ⟨rfl, rfl, rfl, by decide +kernel, rfl, by decide +kernel, by decide +kernel⟩
abbrev s_quoted : Stmt := top 53
theorem sc_quoted : FnScope ["text", "held"] ["text"] (defScope s_quoted) := ⟨rfl, rfl, rfl, by decide +kernel, rfl, by decide +kernel, by decide +kernel⟩
abbrev s_write_value : Stmt := top 56
theorem sc_write_value : FnScope ["store", "value", "most", "form"] ["store", "value", "most"] (defScope s_write_value) := ⟨rfl, rfl, rfl, by decide +kernel, rfl, by decide +kernel, by decide +kernel⟩
abbrev s_text_of : Stmt := top 57
theorem sc_text_of : FnScope ["store", "value", "most"] ["store", "value", "most"] (defScope s_text_of) := ⟨rfl, rfl, rfl, by decide +kernel, rfl, by decide +kernel, by decide +kernel⟩
abbrev s_write : Stmt := top 59
theorem sc_write : FnScope ["form", "value", "thing"] ["form", "value"] (defScope s_write) := ⟨rfl, rfl, rfl, by decide +kernel, rfl, by decide +kernel, by decide +kernel⟩
abbrev s_write_around : Stmt := top 60
theorem sc_write_around : FnScope ["form", "ref", "opening", "closing"] ["form", "ref", "opening", "closing"] (defScope s_write_around) := ⟨rfl, rfl, rfl, by decide +kernel, rfl, by decide +kernel, by decide +kernel⟩
abbrev s_write_held : Stmt := top 61
theorem sc_write_held : FnScope ["form", "thing", "gap", "held", "at", "value"] ["form", "thing"] (defScope s_write_held) := ⟨rfl, rfl, rfl, by decide +kernel, rfl, by decide +kernel, by decide +kernel⟩
abbrev s_held_by : Stmt := top 62
theorem sc_held_by : FnScope ["thing", "part"] ["thing"] (defScope s_held_by) := ⟨rfl, rfl, rfl, by decide +kernel, rfl, by decide +kernel, by decide +kernel⟩
abbrev s_plain_form : Stmt := top 63
theorem sc_plain_form : FnScope ["form", "value", "thing", "name"] ["form", "value", "thing"] (defScope s_plain_form) := ⟨rfl, rfl, rfl, by decide +kernel, rfl, by decide +kernel, by decide +kernel⟩
abbrev s_joined : Stmt := top 65
theorem sc_joined : FnScope ["store", "values", "between", "pieces", "size", "value"] ["store", "values", "between"] (defScope s_joined) := ⟨rfl, rfl, rfl, by decide +kernel, rfl, by decide +kernel, by decide +kernel⟩
abbrev s_call_builtin : Stmt := top 71
theorem sc_call_builtin : FnScope ["store", "name", "values", "action", "kinds"] ["store", "name", "values"] (defScope s_call_builtin) := ⟨rfl, rfl, rfl, by decide +kernel, rfl, by decide +kernel, by decide +kernel⟩
abbrev s_print_line : Stmt := top 72
theorem sc_print_line : FnScope ["store", "values"] ["store", "values"] (defScope s_print_line) := ⟨rfl, rfl, rfl, by decide +kernel, rfl, by decide +kernel, by decide +kernel⟩
abbrev s_integers_between : Stmt := top 73
theorem sc_integers_between : FnScope ["store", "values", "start", "many"] ["store", "values"] (defScope s_integers_between) := ⟨rfl, rfl, rfl, by decide +kernel, rfl, by decide +kernel, by decide +kernel⟩
abbrev s_least : Stmt := top 74
theorem sc_least : FnScope ["store", "values"] ["store", "values"] (defScope s_least) := ⟨rfl, rfl, rfl, by decide +kernel, rfl, by decide +kernel, by decide +kernel⟩
abbrev s_greatest : Stmt := top 75
theorem sc_greatest : FnScope ["store", "values"] ["store", "values"] (defScope s_greatest) := ⟨rfl, rfl, rfl, by decide +kernel, rfl, by decide +kernel, by decide +kernel⟩
abbrev s_choices : Stmt := top 76
theorem sc_choices : FnScope ["store", "values", "held"] ["store", "values"] (defScope s_choices) := ⟨rfl, rfl, rfl, by decide +kernel, rfl, by decide +kernel, by decide +kernel⟩
abbrev s_read_line : Stmt := top 78
theorem sc_read_line : FnScope ["store"] ["store"] (defScope s_read_line) := ⟨rfl, rfl, rfl, by decide +kernel, rfl, by decide +kernel, by decide +kernel⟩
abbrev s_as_text : Stmt := top 79
theorem sc_as_text : FnScope ["store", "x", "text"] ["store", "x"] (defScope s_as_text) := ⟨rfl, rfl, rfl, by decide +kernel, rfl, by decide +kernel, by decide +kernel⟩
abbrev s_as_integer : Stmt := top 80
theorem sc_as_integer : FnScope ["store", "x"] ["store", "x"] (defScope s_as_integer) := ⟨rfl, rfl, rfl, by decide +kernel, rfl, by decide +kernel, by decide +kernel⟩
abbrev s_length : Stmt := top 81
theorem sc_length : FnScope ["store", "x"] ["store", "x"] (defScope s_length) := ⟨rfl, rfl, rfl, by decide +kernel, rfl, by decide +kernel, by decide +kernel⟩
abbrev s_kind : Stmt := top 82
theorem sc_kind : FnScope ["store", "x"] ["store", "x"] (defScope s_kind) := ⟨rfl, rfl, rfl, by decide +kernel, rfl, by decide +kernel, by decide +kernel⟩
abbrev s_without_sign : Stmt := top 83
theorem sc_without_sign : FnScope ["store", "number"] ["store", "number"] (defScope s_without_sign) := ⟨rfl, rfl, rfl, by decide +kernel, rfl, by decide +kernel, by decide +kernel⟩
abbrev s_power : Stmt := top 84
theorem sc_power : FnScope ["store", "number", "exponent"] ["store", "number", "exponent"] (defScope s_power) := ⟨rfl, rfl, rfl, by decide +kernel, rfl, by decide +kernel, by decide +kernel⟩
abbrev s_divisor : Stmt := top 85
theorem sc_divisor : FnScope ["store", "number", "other"] ["store", "number", "other"] (defScope s_divisor) := ⟨rfl, rfl, rfl, by decide +kernel, rfl, by decide +kernel, by decide +kernel⟩
abbrev s_root : Stmt := top 86
theorem sc_root : FnScope ["store", "number"] ["store", "number"] (defScope s_root) := ⟨rfl, rfl, rfl, by decide +kernel, rfl, by decide +kernel, by decide +kernel⟩
abbrev s_in_base : Stmt := top 87
theorem sc_in_base : FnScope ["store", "number", "base"] ["store", "number", "base"] (defScope s_in_base) := ⟨rfl, rfl, rfl, by decide +kernel, rfl, by decide +kernel, by decide +kernel⟩
abbrev s_from_base : Stmt := top 88
theorem sc_from_base : FnScope ["store", "text", "base"] ["store", "text", "base"] (defScope s_from_base) := ⟨rfl, rfl, rfl, by decide +kernel, rfl, by decide +kernel, by decide +kernel⟩
abbrev s_character : Stmt := top 89
theorem sc_character : FnScope ["store", "number"] ["store", "number"] (defScope s_character) := ⟨rfl, rfl, rfl, by decide +kernel, rfl, by decide +kernel, by decide +kernel⟩
abbrev s_assert_true : Stmt := top 90
theorem sc_assert_true : FnScope ["store", "x", "message"] ["store", "x", "message"] (defScope s_assert_true) := ⟨rfl, rfl, rfl, by decide +kernel, rfl, by decide +kernel, by decide +kernel⟩
abbrev s_copy : Stmt := top 91
theorem sc_copy : FnScope ["store", "x"] ["store", "x"] (defScope s_copy) := ⟨rfl, rfl, rfl, by decide +kernel, rfl, by decide +kernel, by decide +kernel⟩
abbrev s_equals : Stmt := top 92
theorem sc_equals : FnScope ["store", "x", "y"] ["store", "x", "y"] (defScope s_equals) := ⟨rfl, rfl, rfl, by decide +kernel, rfl, by decide +kernel, by decide +kernel⟩
abbrev s_law_cell : Stmt := top 97
theorem sc_law_cell : FnScope ["script", "k"] ["script", "k"] (defScope s_law_cell) := ⟨rfl, rfl, rfl, by decide +kernel, rfl, by decide +kernel, by decide +kernel⟩
abbrev s_law_is_integer : Stmt := top 98
theorem sc_law_is_integer : FnScope ["told"] ["told"] (defScope s_law_is_integer) := ⟨rfl, rfl, rfl, by decide +kernel, rfl, by decide +kernel, by decide +kernel⟩
abbrev s_law_begin : Stmt := top 99
theorem sc_law_begin : FnScope ["script", "k"] ["script", "k"] (defScope s_law_begin) := ⟨rfl, rfl, rfl, by decide +kernel, rfl, by decide +kernel, by decide +kernel⟩
abbrev s_law_draw : Stmt := top 100
theorem sc_law_draw : FnScope ["state", "many", "k", "cell", "prime", "mixed", "digit"] ["state", "many"] (defScope s_law_draw) := ⟨rfl, rfl, rfl, by decide +kernel, rfl, by decide +kernel, by decide +kernel⟩
abbrev s_law_pick : Stmt := top 101
theorem sc_law_pick : FnScope ["state", "row"] ["state", "row"] (defScope s_law_pick) := ⟨rfl, rfl, rfl, by decide +kernel, rfl, by decide +kernel, by decide +kernel⟩
abbrev s_law_greatest : Stmt := top 102
theorem sc_law_greatest : FnScope ["number", "k"] [] (defScope s_law_greatest) := ⟨rfl, rfl, rfl, by decide +kernel, rfl, by decide +kernel, by decide +kernel⟩
abbrev s_law_number : Stmt := top 103
theorem sc_law_number : FnScope ["state", "number", "kind_v", "k"] ["state"] (defScope s_law_number) := ⟨rfl, rfl, rfl, by decide +kernel, rfl, by decide +kernel, by decide +kernel⟩
abbrev s_law_call : Stmt := top 104
theorem sc_law_call : FnScope ["name", "values", "told", "e"] ["name", "values"] (defScope s_law_call) := ⟨rfl, rfl, rfl, by decide +kernel, rfl, by decide +kernel, by decide +kernel⟩
abbrev s_law_root : Stmt := top 105
theorem sc_law_root : FnScope ["a", "told"] ["a"] (defScope s_law_root) := ⟨rfl, rfl, rfl, by decide +kernel, rfl, by decide +kernel, by decide +kernel⟩
abbrev s_law_divisor : Stmt := top 106
theorem sc_law_divisor : FnScope ["a", "b", "told", "x", "y", "k", "rest"] ["a", "b"] (defScope s_law_divisor) := ⟨rfl, rfl, rfl, by decide +kernel, rfl, by decide +kernel, by decide +kernel⟩
abbrev s_law_power : Stmt := top 107
theorem sc_law_power : FnScope ["a", "b", "told", "due", "k"] ["a", "b"] (defScope s_law_power) := ⟨rfl, rfl, rfl, by decide +kernel, rfl, by decide +kernel, by decide +kernel⟩
abbrev s_law_digits : Stmt := top 108
theorem sc_law_digits : FnScope ["a", "b", "digits", "rest", "text", "k"] ["a", "b"] (defScope s_law_digits) := ⟨rfl, rfl, rfl, by decide +kernel, rfl, by decide +kernel, by decide +kernel⟩
abbrev s_law_base : Stmt := top 109
theorem sc_law_base : FnScope ["a", "b", "told", "due", "text", "back"] ["a", "b"] (defScope s_law_base) := ⟨rfl, rfl, rfl, by decide +kernel, rfl, by decide +kernel, by decide +kernel⟩
abbrev s_law_no_number : Stmt := top 110
theorem sc_law_no_number : FnScope ["text", "b", "digits", "body", "good", "number", "at", "digit", "told"] ["text", "b"] (defScope s_law_no_number) := ⟨rfl, rfl, rfl, by decide +kernel, rfl, by decide +kernel, by decide +kernel⟩
abbrev s_law : Stmt := top 111
theorem sc_law : FnScope ["script", "state", "k", "a", "b", "power_v", "text", "j"] ["script"] (defScope s_law) := ⟨rfl, rfl, rfl, by decide +kernel, rfl, by decide +kernel, by decide +kernel⟩
abbrev s_Ref_init : Stmt := inClass (top 8) 0
theorem sc_Ref_init : FnScope ["self", "number"] ["self", "number"] (defScope s_Ref_init) := ⟨rfl, rfl, rfl, by decide +kernel, rfl, by decide +kernel, by decide +kernel⟩
abbrev s_Ref_eq : Stmt := inClass (top 8) 1
theorem sc_Ref_eq : FnScope ["self", "other"] ["self", "other"] (defScope s_Ref_eq) := ⟨rfl, rfl, rfl, by decide +kernel, rfl, by decide +kernel, by decide +kernel⟩
abbrev s_Parts_init : Stmt := inClass (top 10) 0
theorem sc_Parts_init : FnScope ["self", "held"] ["self", "held"] (defScope s_Parts_init) := ⟨rfl, rfl, rfl, by decide +kernel, rfl, by decide +kernel, by decide +kernel⟩
abbrev s_Table_init : Stmt := inClass (top 11) 0
theorem sc_Table_init : FnScope ["self"] ["self"] (defScope s_Table_init) := ⟨rfl, rfl, rfl, by decide +kernel, rfl, by decide +kernel, by decide +kernel⟩
abbrev s_Table_has : Stmt := inClass (top 11) 1
theorem sc_Table_has : FnScope ["self", "key"] ["self", "key"] (defScope s_Table_has) := ⟨rfl, rfl, rfl, by decide +kernel, rfl, by decide +kernel, by decide +kernel⟩
abbrev s_Table_value_of : Stmt := inClass (top 11) 2
theorem sc_Table_value_of : FnScope ["self", "key"] ["self", "key"] (defScope s_Table_value_of) := ⟨rfl, rfl, rfl, by decide +kernel, rfl, by decide +kernel, by decide +kernel⟩
abbrev s_Table_put : Stmt := inClass (top 11) 3
theorem sc_Table_put : FnScope ["self", "key", "value"] ["self", "key", "value"] (defScope s_Table_put) := ⟨rfl, rfl, rfl, by decide +kernel, rfl, by decide +kernel, by decide +kernel⟩
abbrev s_Table_pairs : Stmt := inClass (top 11) 5
theorem sc_Table_pairs : FnScope ["self"] ["self"] (defScope s_Table_pairs) := ⟨rfl, rfl, rfl, by decide +kernel, rfl, by decide +kernel, by decide +kernel⟩
abbrev s_Table_many : Stmt := inClass (top 11) 6
theorem sc_Table_many : FnScope ["self"] ["self"] (defScope s_Table_many) := ⟨rfl, rfl, rfl, by decide +kernel, rfl, by decide +kernel, by decide +kernel⟩
abbrev s_Instance_init : Stmt := inClass (top 13) 0
theorem sc_Instance_init : FnScope ["self", "owner"] ["self", "owner"] (defScope s_Instance_init) := ⟨rfl, rfl, rfl, by decide +kernel, rfl, by decide +kernel, by decide +kernel⟩
abbrev s_Kin_init : Stmt := inClass (top 14) 0
theorem sc_Kin_init : FnScope ["self", "name", "parent"] ["self", "name", "parent"] (defScope s_Kin_init) := ⟨rfl, rfl, rfl, by decide +kernel, rfl, by decide +kernel, by decide +kernel⟩
abbrev s_Copies_init : Stmt := inClass (top 33) 0
theorem sc_Copies_init : FnScope ["self", "store"] ["self", "store"] (defScope s_Copies_init) := ⟨rfl, rfl, rfl, by decide +kernel, rfl, by decide +kernel, by decide +kernel⟩
abbrev s_Copies_copy_for : Stmt := inClass (top 33) 1
theorem sc_Copies_copy_for : FnScope ["self", "value", "thing"] ["self", "value"] (defScope s_Copies_copy_for) := ⟨rfl, rfl, rfl, by decide +kernel, rfl, by decide +kernel, by decide +kernel⟩
abbrev s_Form_init : Stmt := inClass (top 58) 0
theorem sc_Form_init : FnScope ["self", "store", "most"] ["self", "store", "most"] (defScope s_Form_init) := ⟨rfl, rfl, rfl, by decide +kernel, rfl, by decide +kernel, by decide +kernel⟩
abbrev s_Form_add : Stmt := inClass (top 58) 1
theorem sc_Form_add : FnScope ["self", "text"] ["self", "text"] (defScope s_Form_add) := ⟨rfl, rfl, rfl, by decide +kernel, rfl, by decide +kernel, by decide +kernel⟩
abbrev s_Form_is_enough : Stmt := inClass (top 58) 2
theorem sc_Form_is_enough : FnScope ["self"] ["self"] (defScope s_Form_is_enough) := ⟨rfl, rfl, rfl, by decide +kernel, rfl, by decide +kernel, by decide +kernel⟩
abbrev s_Store_init : Stmt := inClass (top 95) 0
theorem sc_Store_init : FnScope ["self", "lines"] ["self", "lines"] (defScope s_Store_init) := ⟨rfl, rfl, rfl, by decide +kernel, rfl, by decide +kernel, by decide +kernel⟩
abbrev s_Store_make : Stmt := inClass (top 95) 1
theorem sc_Store_make : FnScope ["self", "thing"] ["self", "thing"] (defScope s_Store_make) := ⟨rfl, rfl, rfl, by decide +kernel, rfl, by decide +kernel, by decide +kernel⟩
abbrev s_Store_at : Stmt := inClass (top 95) 2
theorem sc_Store_at : FnScope ["self", "ref"] ["self", "ref"] (defScope s_Store_at) := ⟨rfl, rfl, rfl, by decide +kernel, rfl, by decide +kernel, by decide +kernel⟩
abbrev sx_ScriptError : Stmt := inClass (top 4) 0
/-- where the classes stand -/
structure Ads where
  Ref : Addr
  Parts : Addr
  Table : Addr
  Instance : Addr
  Kin : Addr
  Copies : Addr
  Form : Addr
  Store : Addr
  LivequillError : Addr
  ScriptError : Addr
  Waiting : Addr
structure CF (K : PySem.W.Frag) (mg : Str → Option Value) (C : Addr) (nm : Str) : Prop where
  cl : Cls K C
  g : mg nm = some (.ref C)
  ty : ∀ {H : Hp} {a dx : Addr} {fs : List (Str × V)}, H a = some (.ins C dx fs) → TyX K H (.ref a) (.ref C)
structure Fx (K : PySem.W.Frag) (mg : Str → Option Value) (nm : Str) (st : Stmt) (ps : List Str) where
  f : Addr
  fd : FuncData
  F : Fun K nm nm st f fd
  b : Binds K fd ps []
  g : mg nm = some (.ref f)
structure Mx (K : PySem.W.Frag) (C : Addr) (nm qual : Str) (st : Stmt) (ps : List Str) where
  f : Addr
  fd : FuncData
  F : Fun K nm qual st f fd
  b : Binds K fd ps []
  m : Meth K C nm f
structure Ix (K : PySem.W.Frag) (C : Addr) (qual : Str) (st : Stmt) (ps : List Str) where
  f : Addr
  fd : FuncData
  F : Fun K "__init__" qual st f fd
  b : Binds K fd ps []
  m : Mk K C f
structure OwnEq (K : PySem.W.Frag) (C f : Addr) : Prop where
  at_ : PySem.W.findIn K (.ref C) "__eq__" = some (some (.ref f))
  fn : PySem.W.isFn K (.ref f) = true
structure Qx (K : PySem.W.Frag) (C : Addr) (qual : Str) (st : Stmt) (ps : List Str) where
  f : Addr
  fd : FuncData
  F : Fun K "__eq__" qual st f fd
  b : Binds K fd ps []
  m : OwnEq K C f
structure Px (K : PySem.W.Frag) (C : Addr) (nm qual : Str) (st : Stmt) (ps : List Str) where
  f : Addr
  p : Addr
  fd : FuncData
  F : Fun K nm qual st f fd
  b : Binds K fd ps []
  m : PropOf K C nm p f
structure Tx (K : PySem.W.Frag) (mg : Str → Option Value) (nm : Str) (vs : List V) where
  a : Addr
  g : mg nm = some (.ref a)
  s : ∀ H, SqT K H a vs
structure Xx (P : Program) (K : PySem.W.Frag) (mg : Str → Option Value) (C : Addr) (nm n1 n2 : Str) where
  f : Addr
  fd : FuncData
  T : Exn P K mg C f n1 n2
  F : ∀ w base, FnOk P w K mg base CX0 1 f fd ["self", n1, n2] (spTwo C n1 n2)
  b : Binds K fd ["self", n1, n2] []
  g : mg nm = some (.ref C)
  ec : ExcC K C
structure Gx (mg : Str → Option Value) (C : Addr) (nm : Str) : Prop where
  g : mg nm = some (.ref C)
/-- what the written part says -/
structure Lib (P : Program) (K : PySem.W.Frag) (mg : Str → Option Value) (A : Ads) where
  z_range : mg "range" = none
  z_len : mg "len" = none
  z_int : mg "int" = none
  z_str : mg "str" = none
  z_bool : mg "bool" = none
  z_isinstance : mg "isinstance" = none
  z_list : mg "list" = none
  z_abs : mg "abs" = none
  z_min : mg "min" = none
  z_max : mg "max" = none
  z_enumerate : mg "enumerate" = none
  z_zip : mg "zip" = none
  z_all : mg "all" = none
  c_Ref : CF K mg A.Ref "Ref"
  n_Ref_number : PySem.W.findIn K (.ref A.Ref) "number" = some none
  c_Parts : CF K mg A.Parts "Parts"
  n_Parts_held : PySem.W.findIn K (.ref A.Parts) "held" = some none
  c_Table : CF K mg A.Table "Table"
  n_Table__entries : PySem.W.findIn K (.ref A.Table) "_entries" = some none
  c_Instance : CF K mg A.Instance "Instance"
  n_Instance_owner : PySem.W.findIn K (.ref A.Instance) "owner" = some none
  n_Instance_named : PySem.W.findIn K (.ref A.Instance) "named" = some none
  c_Kin : CF K mg A.Kin "Kin"
  n_Kin_name : PySem.W.findIn K (.ref A.Kin) "name" = some none
  n_Kin_parent : PySem.W.findIn K (.ref A.Kin) "parent" = some none
  n_Kin_methods : PySem.W.findIn K (.ref A.Kin) "methods" = some none
  c_Copies : CF K mg A.Copies "Copies"
  n_Copies_store : PySem.W.findIn K (.ref A.Copies) "store" = some none
  n_Copies_found : PySem.W.findIn K (.ref A.Copies) "found" = some none
  n_Copies_by_number : PySem.W.findIn K (.ref A.Copies) "by_number" = some none
  c_Form : CF K mg A.Form "Form"
  n_Form_store : PySem.W.findIn K (.ref A.Form) "store" = some none
  n_Form_most : PySem.W.findIn K (.ref A.Form) "most" = some none
  n_Form_pieces : PySem.W.findIn K (.ref A.Form) "pieces" = some none
  n_Form_size : PySem.W.findIn K (.ref A.Form) "size" = some none
  n_Form_around : PySem.W.findIn K (.ref A.Form) "around" = some none
  c_Store : CF K mg A.Store "Store"
  n_Store_things : PySem.W.findIn K (.ref A.Store) "things" = some none
  n_Store_output : PySem.W.findIn K (.ref A.Store) "output" = some none
  n_Store_lines : PySem.W.findIn K (.ref A.Store) "lines" = some none
  n_Store_taken : PySem.W.findIn K (.ref A.Store) "taken" = some none
  x_LivequillError : Gx mg A.LivequillError "LivequillError"
  x_ScriptError : Xx P K mg A.ScriptError "ScriptError" "kind" "message"
  k_ScriptError_LivequillError : PySem.W.kitOne K (.ref A.ScriptError) (.ref A.LivequillError) = some true
  k_ScriptError_Waiting : PySem.W.kitOne K (.ref A.ScriptError) (.ref A.Waiting) = some false
  x_Waiting : Gx mg A.Waiting "Waiting"
  k_Ref_Parts : PySem.W.kitOne K (.ref A.Ref) (.ref A.Parts) = some false
  k_Ref_Table : PySem.W.kitOne K (.ref A.Ref) (.ref A.Table) = some false
  k_Ref_Instance : PySem.W.kitOne K (.ref A.Ref) (.ref A.Instance) = some false
  k_Ref_Kin : PySem.W.kitOne K (.ref A.Ref) (.ref A.Kin) = some false
  k_Ref_bool : PySem.W.kitOne K (.ref A.Ref) (.type "bool") = some false
  k_Ref_int : PySem.W.kitOne K (.ref A.Ref) (.type "int") = some false
  k_Ref_str : PySem.W.kitOne K (.ref A.Ref) (.type "str") = some false
  k_Parts_Ref : PySem.W.kitOne K (.ref A.Parts) (.ref A.Ref) = some false
  k_Parts_Table : PySem.W.kitOne K (.ref A.Parts) (.ref A.Table) = some false
  k_Parts_Instance : PySem.W.kitOne K (.ref A.Parts) (.ref A.Instance) = some false
  k_Parts_Kin : PySem.W.kitOne K (.ref A.Parts) (.ref A.Kin) = some false
  k_Parts_bool : PySem.W.kitOne K (.ref A.Parts) (.type "bool") = some false
  k_Parts_int : PySem.W.kitOne K (.ref A.Parts) (.type "int") = some false
  k_Parts_str : PySem.W.kitOne K (.ref A.Parts) (.type "str") = some false
  k_Table_Ref : PySem.W.kitOne K (.ref A.Table) (.ref A.Ref) = some false
  k_Table_Parts : PySem.W.kitOne K (.ref A.Table) (.ref A.Parts) = some false
  k_Table_Instance : PySem.W.kitOne K (.ref A.Table) (.ref A.Instance) = some false
  k_Table_Kin : PySem.W.kitOne K (.ref A.Table) (.ref A.Kin) = some false
  k_Table_bool : PySem.W.kitOne K (.ref A.Table) (.type "bool") = some false
  k_Table_int : PySem.W.kitOne K (.ref A.Table) (.type "int") = some false
  k_Table_str : PySem.W.kitOne K (.ref A.Table) (.type "str") = some false
  k_Instance_Ref : PySem.W.kitOne K (.ref A.Instance) (.ref A.Ref) = some false
  k_Instance_Parts : PySem.W.kitOne K (.ref A.Instance) (.ref A.Parts) = some false
  k_Instance_Table : PySem.W.kitOne K (.ref A.Instance) (.ref A.Table) = some false
  k_Instance_Kin : PySem.W.kitOne K (.ref A.Instance) (.ref A.Kin) = some false
  k_Instance_bool : PySem.W.kitOne K (.ref A.Instance) (.type "bool") = some false
  k_Instance_int : PySem.W.kitOne K (.ref A.Instance) (.type "int") = some false
  k_Instance_str : PySem.W.kitOne K (.ref A.Instance) (.type "str") = some false
  k_Kin_Ref : PySem.W.kitOne K (.ref A.Kin) (.ref A.Ref) = some false
  k_Kin_Parts : PySem.W.kitOne K (.ref A.Kin) (.ref A.Parts) = some false
  k_Kin_Table : PySem.W.kitOne K (.ref A.Kin) (.ref A.Table) = some false
  k_Kin_Instance : PySem.W.kitOne K (.ref A.Kin) (.ref A.Instance) = some false
  k_Kin_bool : PySem.W.kitOne K (.ref A.Kin) (.type "bool") = some false
  k_Kin_int : PySem.W.kitOne K (.ref A.Kin) (.type "int") = some false
  k_Kin_str : PySem.W.kitOne K (.ref A.Kin) (.type "str") = some false
  k_Copies_Ref : PySem.W.kitOne K (.ref A.Copies) (.ref A.Ref) = some false
  k_Copies_Parts : PySem.W.kitOne K (.ref A.Copies) (.ref A.Parts) = some false
  k_Copies_Table : PySem.W.kitOne K (.ref A.Copies) (.ref A.Table) = some false
  k_Copies_Instance : PySem.W.kitOne K (.ref A.Copies) (.ref A.Instance) = some false
  k_Copies_Kin : PySem.W.kitOne K (.ref A.Copies) (.ref A.Kin) = some false
  k_Copies_bool : PySem.W.kitOne K (.ref A.Copies) (.type "bool") = some false
  k_Copies_int : PySem.W.kitOne K (.ref A.Copies) (.type "int") = some false
  k_Copies_str : PySem.W.kitOne K (.ref A.Copies) (.type "str") = some false
  k_Form_Ref : PySem.W.kitOne K (.ref A.Form) (.ref A.Ref) = some false
  k_Form_Parts : PySem.W.kitOne K (.ref A.Form) (.ref A.Parts) = some false
  k_Form_Table : PySem.W.kitOne K (.ref A.Form) (.ref A.Table) = some false
  k_Form_Instance : PySem.W.kitOne K (.ref A.Form) (.ref A.Instance) = some false
  k_Form_Kin : PySem.W.kitOne K (.ref A.Form) (.ref A.Kin) = some false
  k_Form_bool : PySem.W.kitOne K (.ref A.Form) (.type "bool") = some false
  k_Form_int : PySem.W.kitOne K (.ref A.Form) (.type "int") = some false
  k_Form_str : PySem.W.kitOne K (.ref A.Form) (.type "str") = some false
  k_Store_Ref : PySem.W.kitOne K (.ref A.Store) (.ref A.Ref) = some false
  k_Store_Parts : PySem.W.kitOne K (.ref A.Store) (.ref A.Parts) = some false
  k_Store_Table : PySem.W.kitOne K (.ref A.Store) (.ref A.Table) = some false
  k_Store_Instance : PySem.W.kitOne K (.ref A.Store) (.ref A.Instance) = some false
  k_Store_Kin : PySem.W.kitOne K (.ref A.Store) (.ref A.Kin) = some false
  k_Store_bool : PySem.W.kitOne K (.ref A.Store) (.type "bool") = some false
  k_Store_int : PySem.W.kitOne K (.ref A.Store) (.type "int") = some false
  k_Store_str : PySem.W.kitOne K (.ref A.Store) (.type "str") = some false
  k_NoneType_Ref : PySem.W.kitOne K (.type "NoneType") (.ref A.Ref) = some false
  k_NoneType_Parts : PySem.W.kitOne K (.type "NoneType") (.ref A.Parts) = some false
  k_NoneType_Table : PySem.W.kitOne K (.type "NoneType") (.ref A.Table) = some false
  k_NoneType_Instance : PySem.W.kitOne K (.type "NoneType") (.ref A.Instance) = some false
  k_NoneType_Kin : PySem.W.kitOne K (.type "NoneType") (.ref A.Kin) = some false
  k_bool_Ref : PySem.W.kitOne K (.type "bool") (.ref A.Ref) = some false
  k_bool_Parts : PySem.W.kitOne K (.type "bool") (.ref A.Parts) = some false
  k_bool_Table : PySem.W.kitOne K (.type "bool") (.ref A.Table) = some false
  k_bool_Instance : PySem.W.kitOne K (.type "bool") (.ref A.Instance) = some false
  k_bool_Kin : PySem.W.kitOne K (.type "bool") (.ref A.Kin) = some false
  k_int_Ref : PySem.W.kitOne K (.type "int") (.ref A.Ref) = some false
  k_int_Parts : PySem.W.kitOne K (.type "int") (.ref A.Parts) = some false
  k_int_Table : PySem.W.kitOne K (.type "int") (.ref A.Table) = some false
  k_int_Instance : PySem.W.kitOne K (.type "int") (.ref A.Instance) = some false
  k_int_Kin : PySem.W.kitOne K (.type "int") (.ref A.Kin) = some false
  k_str_Ref : PySem.W.kitOne K (.type "str") (.ref A.Ref) = some false
  k_str_Parts : PySem.W.kitOne K (.type "str") (.ref A.Parts) = some false
  k_str_Table : PySem.W.kitOne K (.type "str") (.ref A.Table) = some false
  k_str_Instance : PySem.W.kitOne K (.type "str") (.ref A.Instance) = some false
  k_str_Kin : PySem.W.kitOne K (.type "str") (.ref A.Kin) = some false
  k_tuple_Ref : PySem.W.kitOne K (.type "tuple") (.ref A.Ref) = some false
  k_tuple_Parts : PySem.W.kitOne K (.type "tuple") (.ref A.Parts) = some false
  k_tuple_Table : PySem.W.kitOne K (.type "tuple") (.ref A.Table) = some false
  k_tuple_Instance : PySem.W.kitOne K (.type "tuple") (.ref A.Instance) = some false
  k_tuple_Kin : PySem.W.kitOne K (.type "tuple") (.ref A.Kin) = some false
  k_list_Ref : PySem.W.kitOne K (.type "list") (.ref A.Ref) = some false
  k_list_Parts : PySem.W.kitOne K (.type "list") (.ref A.Parts) = some false
  k_list_Table : PySem.W.kitOne K (.type "list") (.ref A.Table) = some false
  k_list_Instance : PySem.W.kitOne K (.type "list") (.ref A.Instance) = some false
  k_list_Kin : PySem.W.kitOne K (.type "list") (.ref A.Kin) = some false
  nf_Ref_NoneType : PySem.W.notFirst K A.Ref (.type "NoneType") = true
  su_Ref_NoneType : PySem.W.subIn K (.ref A.Ref) (.type "NoneType") = some false
  nf_Ref_int : PySem.W.notFirst K A.Ref (.type "int") = true
  su_Ref_int : PySem.W.subIn K (.ref A.Ref) (.type "int") = some false
  nf_Ref_str : PySem.W.notFirst K A.Ref (.type "str") = true
  su_Ref_str : PySem.W.subIn K (.ref A.Ref) (.type "str") = some false
  nf_Ref_tuple : PySem.W.notFirst K A.Ref (.type "tuple") = true
  su_Ref_tuple : PySem.W.subIn K (.ref A.Ref) (.type "tuple") = some false
  nf_Ref_list : PySem.W.notFirst K A.Ref (.type "list") = true
  su_Ref_list : PySem.W.subIn K (.ref A.Ref) (.type "list") = some false
  nf_Ref_Parts : PySem.W.notFirst K A.Ref (.ref A.Parts) = true
  nf_Ref_Table : PySem.W.notFirst K A.Ref (.ref A.Table) = true
  nf_Ref_Instance : PySem.W.notFirst K A.Ref (.ref A.Instance) = true
  nf_Ref_Kin : PySem.W.notFirst K A.Ref (.ref A.Kin) = true
  nf_Ref_Copies : PySem.W.notFirst K A.Ref (.ref A.Copies) = true
  nf_Ref_Form : PySem.W.notFirst K A.Ref (.ref A.Form) = true
  nf_Ref_Store : PySem.W.notFirst K A.Ref (.ref A.Store) = true
  v_PERCENT : ∃ t, mg "PERCENT" = some (.int 37 t)
  v_MOST_HELD : ∃ t, mg "MOST_HELD" = some (.int 1000 t)
  v_DOUBTFUL_BITS : ∃ t, mg "DOUBTFUL_BITS" = some (.int 997 t)
  v_DIGITS : ∃ t, mg "DIGITS" = some (.str "0123456789abcdefghijklmnopqrstuvwxyz" t)
  v_CAPITALS : ∃ t, mg "CAPITALS" = some (.str "ABCDEFGHIJKLMNOPQRSTUVWXYZ" t)
  v_LEAST_BASE : ∃ t, mg "LEAST_BASE" = some (.int 2 t)
  v_MOST_BASE : ∃ t, mg "MOST_BASE" = some (.int 36 t)
  v_MOST_AROUND : ∃ t, mg "MOST_AROUND" = some (.int 10 t)
  v_NEWLINE : ∃ t, mg "NEWLINE" = some (.int 10 t)
  v_FIRST : ∃ t, mg "FIRST" = some (.int 32 t)
  v_LAST : ∃ t, mg "LAST" = some (.int 126 t)
  tagged : Fx K mg "tagged" s_tagged ["key"]
  kind_of : Fx K mg "kind_of" s_kind_of ["store", "value"]
  kind_of_thing : Fx K mg "kind_of_thing" s_kind_of_thing ["thing"]
  is_true : Fx K mg "is_true" s_is_true ["value"]
  equal : Fx K mg "equal" s_equal ["x", "y"]
  is_key : Fx K mg "is_key" s_is_key ["value"]
  check_size : Fx K mg "check_size" s_check_size ["size"]
  is_bounded : Fx K mg "is_bounded" s_is_bounded ["number"]
  checked_integer : Fx K mg "checked_integer" s_checked_integer ["number"]
  check_count : Fx K mg "check_count" s_check_count ["values", "wanted"]
  check_arguments : Fx K mg "check_arguments" s_check_arguments ["store", "values", "kinds"]
  check_kind : Fx K mg "check_kind" s_check_kind ["store", "value", "kind"]
  check_alike : Fx K mg "check_alike" s_check_alike ["store", "values"]
  copy_of : Fx K mg "copy_of" s_copy_of ["store", "value"]
  is_holder : Fx K mg "is_holder" s_is_holder ["store", "value"]
  fill : Fx K mg "fill" s_fill ["copies", "original"]
  same : Fx K mg "same" s_same ["store", "x", "y"]
  pairs_within : Fx K mg "pairs_within" s_pairs_within ["thing", "match"]
  raised : Fx K mg "raised" s_raised ["number", "exponent"]
  small_power : Fx K mg "small_power" s_small_power ["number", "exponent"]
  root_of : Fx K mg "root_of" s_root_of ["number"]
  check_base : Fx K mg "check_base" s_check_base ["base"]
  written_in : Fx K mg "written_in" s_written_in ["number", "base"]
  read_in : Fx K mg "read_in" s_read_in ["text", "base"]
  place_of_digit : Fx K mg "place_of_digit" s_place_of_digit ["sign"]
  make_list : Fx K mg "make_list" s_make_list ["store", "values"]
  quoted : Fx K mg "quoted" s_quoted ["text"]
  write_value : Fx K mg "write_value" s_write_value ["store", "value", "most"]
  text_of : Fx K mg "text_of" s_text_of ["store", "value", "most"]
  write : Fx K mg "write" s_write ["form", "value"]
  write_around : Fx K mg "write_around" s_write_around ["form", "ref", "opening", "closing"]
  write_held : Fx K mg "write_held" s_write_held ["form", "thing"]
  held_by : Fx K mg "held_by" s_held_by ["thing"]
  plain_form : Fx K mg "plain_form" s_plain_form ["form", "value", "thing"]
  joined : Fx K mg "joined" s_joined ["store", "values", "between"]
  call_builtin : Fx K mg "call_builtin" s_call_builtin ["store", "name", "values"]
  print_line : Fx K mg "print_line" s_print_line ["store", "values"]
  integers_between : Fx K mg "integers_between" s_integers_between ["store", "values"]
  least : Fx K mg "least" s_least ["store", "values"]
  greatest : Fx K mg "greatest" s_greatest ["store", "values"]
  choices : Fx K mg "choices" s_choices ["store", "values"]
  read_line : Fx K mg "read_line" s_read_line ["store"]
  as_text : Fx K mg "as_text" s_as_text ["store", "x"]
  as_integer : Fx K mg "as_integer" s_as_integer ["store", "x"]
  length : Fx K mg "length" s_length ["store", "x"]
  kind : Fx K mg "kind" s_kind ["store", "x"]
  without_sign : Fx K mg "without_sign" s_without_sign ["store", "number"]
  power : Fx K mg "power" s_power ["store", "number", "exponent"]
  divisor : Fx K mg "divisor" s_divisor ["store", "number", "other"]
  root : Fx K mg "root" s_root ["store", "number"]
  in_base : Fx K mg "in_base" s_in_base ["store", "number", "base"]
  from_base : Fx K mg "from_base" s_from_base ["store", "text", "base"]
  character : Fx K mg "character" s_character ["store", "number"]
  assert_true : Fx K mg "assert_true" s_assert_true ["store", "x", "message"]
  copy : Fx K mg "copy" s_copy ["store", "x"]
  equals : Fx K mg "equals" s_equals ["store", "x", "y"]
  law_cell : Fx K mg "_law_cell" s_law_cell ["script", "k"]
  law_is_integer : Fx K mg "_law_is_integer" s_law_is_integer ["told"]
  law_begin : Fx K mg "_law_begin" s_law_begin ["script", "k"]
  law_draw : Fx K mg "_law_draw" s_law_draw ["state", "many"]
  law_pick : Fx K mg "_law_pick" s_law_pick ["state", "row"]
  law_greatest : Fx K mg "_law_greatest" s_law_greatest []
  law_number : Fx K mg "_law_number" s_law_number ["state"]
  law_call : Fx K mg "_law_call" s_law_call ["name", "values"]
  law_root : Fx K mg "_law_root" s_law_root ["a"]
  law_divisor : Fx K mg "_law_divisor" s_law_divisor ["a", "b"]
  law_power : Fx K mg "_law_power" s_law_power ["a", "b"]
  law_digits : Fx K mg "_law_digits" s_law_digits ["a", "b"]
  law_base : Fx K mg "_law_base" s_law_base ["a", "b"]
  law_no_number : Fx K mg "_law_no_number" s_law_no_number ["text", "b"]
  Ref_init : Ix K A.Ref "Ref.__init__" s_Ref_init ["self", "number"]
  Ref_eq : Qx K A.Ref "Ref.__eq__" s_Ref_eq ["self", "other"]
  Parts_init : Ix K A.Parts "Parts.__init__" s_Parts_init ["self", "held"]
  Table_init : Ix K A.Table "Table.__init__" s_Table_init ["self"]
  Table_has : Mx K A.Table "has" "Table.has" s_Table_has ["self", "key"]
  Table_value_of : Mx K A.Table "value_of" "Table.value_of" s_Table_value_of ["self", "key"]
  Table_put : Mx K A.Table "put" "Table.put" s_Table_put ["self", "key", "value"]
  Table_pairs : Mx K A.Table "pairs" "Table.pairs" s_Table_pairs ["self"]
  Table_many : Px K A.Table "many" "Table.many" s_Table_many ["self"]
  Instance_init : Ix K A.Instance "Instance.__init__" s_Instance_init ["self", "owner"]
  Kin_init : Ix K A.Kin "Kin.__init__" s_Kin_init ["self", "name", "parent"]
  Copies_init : Ix K A.Copies "Copies.__init__" s_Copies_init ["self", "store"]
  Copies_copy_for : Mx K A.Copies "copy_for" "Copies.copy_for" s_Copies_copy_for ["self", "value"]
  Form_init : Ix K A.Form "Form.__init__" s_Form_init ["self", "store", "most"]
  Form_add : Mx K A.Form "add" "Form.add" s_Form_add ["self", "text"]
  Form_is_enough : Mx K A.Form "is_enough" "Form.is_enough" s_Form_is_enough ["self"]
  Store_init : Ix K A.Store "Store.__init__" s_Store_init ["self", "lines"]
  Store_make : Mx K A.Store "make" "Store.make" s_Store_make ["self", "thing"]
  Store_at : Mx K A.Store "at" "Store.at" s_Store_at ["self", "ref"]
end My
namespace My
open PySem L2 SX XT XS XE
open C8 (pss_cut tCut cutS_slice pe_gc)
def Keep (p : Addr) (H H' : Hp) : Prop := ∀ b o, H b = some o → b ≠ p → H' b = some o
theorem Same.keep {p : Addr} {H H' : Hp} (s : Same H H') : Keep p H H' := fun b o e _ => s b o e
theorem Keep.trans {p : Addr} {H H1 H2 : Hp} (a : Keep p H H1) (b : Keep p H1 H2) : Keep p H H2 := fun c o e n => b c o (a c o e n) n
theorem keep_upd {p : Addr} {H : Hp} {o : HO} : Keep p H (upd H p o) := fun b x e n => by
  rw [upd_ne n]
  exact e
theorem same_upd {H : Hp} {p : Addr} {o : HO} (h : H p = none) : Same H (upd H p o) := fun b x e => by
  rw [upd_ne (ne_of_none e h)]
  exact e
theorem lk_hit {k : Str} {v : V} {r : List (Str × V)} : ((k, v) :: r).lookup k = some v := by
  simp [List.lookup]
theorem ifF {b : Bool} {A B : Prop} (h : b = false) (q : B) : if b = true then A else B := by
  rw [h]
  exact iteF q
theorem ifT {b : Bool} {A B : Prop} (h : b = true) (q : A) : if b = true then A else B := by
  rw [h]
  exact iteT q
theorem ite_or {b : Bool} {A B : Prop} (h1 : b = true → A) (h2 : b = false → B) : if b = true then A else B := by
  cases b with
  | true => exact iteT (h1 rfl)
  | false => exact iteF (h2 rfl)
theorem lk_skip {k k' : Str} {v : V} {r : List (Str × V)} (h : (k == k') = false) : ((k', v) :: r).lookup k = r.lookup k := by
  simp [List.lookup, h]
theorem kit_self {K : PySem.W.Frag} (C : Addr) : PySem.W.kitOne K (.ref C) (.ref C) = some true := if_pos (beq_self_eq_true _)
theorem nf_self {K : PySem.W.Frag} (C : Addr) : PySem.W.notFirst K C (.ref C) = true := by simp [PySem.W.notFirst]
theorem ne_cls {K : PySem.W.Frag} {C D : Addr} (h : PySem.W.kitOne K (.ref C) (.ref D) = some false) : C ≠ D := fun z => by
  rw [z, kit_self] at h
  cases h
theorem sqt_same {K : PySem.W.Frag} {H H' : Hp} {r : Addr} {xs : List V} (s : Same H H') (h : SqT K H r xs) : SqT K H' r xs := by
  rcases h with (h | ⟨ob, h⟩) | h
  · exact .inl (.inl (s _ _ h))
  · exact .inl (.inr ⟨ob, s _ _ h⟩)
  · exact .inr h
theorem Same.put {H H' : Hp} {p : Addr} {o : HO} (s : Same H H') (h : H p = none) : Same H (upd H' p o) := fun b x e => by
  rw [upd_ne (ne_of_none e h)]
  exact s _ _ e
theorem seq_nat {i n : Nat} (h : i < n) : seqIndex? (i : Int) n = some i := by
  unfold seqIndex?
  split <;> first | (simp; omega) | (simp_all; try omega)
theorem ixN_nat {i n : Nat} (h : i < n) : ixN n (i : Int) = some i := by
  unfold ixN
  split <;> first | (simp; omega) | (simp_all; try omega)
end My
namespace My
open PySem L2 SX
open C8 (pss_cut tCut cutS_slice pe_gc)
/-! ### == between values of which one has its own __eq__ -/
section
variable {prog : Program} {w : World} {A : Around} {E : Value → Shared → Prop} {s : Shared} {K : PySem.W.Frag} {x C L f : Addr} {h₀ : Heap} {m : Str → Option Value} {ox : Obj} {od : Option Obj}
theorem cmp_back {a : Value} {Ta id : String} {Q : Value → Shared → Prop} (hu : A.units < cLine) (F : PyProof.Rows.Fr h₀ L s.heap m) (X₀ : K.In h₀) (I : PySem.W.InstAt s.heap x ox C od) (ha : s.TypeIs a Ta) (h1 : Slot Ta "__eq__" id)
    (hsub : PySem.W.subIn K (.ref C) (.type Ta) = some false) (hc : ∀ Q' : Value → Shared → Prop, Q' .notImplemented s → wpAny (model prog w) A (call (.builtin id) [a, .ref x]) Q' E s)
    (hs : PySem.W.findIn K (.ref C) "__eq__" = some (some (.ref f))) (hf : PySem.W.isFn K (.ref f) = true)
    (h : wpAny (model prog w) A (call (.ref f) [.ref x, a]) (PySem.W.CmpBack Q) E s) : wpAny (model prog w) A (richCompare .Eq a (.ref x)) Q E s := by
  have X := X₀.keeps F.keep
  have one : wpAny (model prog w) A (tryCompare (.ref x) "__eq__" a) (fun r s' => ∃ v, r = some v ∧ Q v s') E s := by
    unfold tryCompare
    refine wpAny_bind (PySem.W.ifBound_K X I hs hf (wpAny_mono h (fun v s' hv => ?_) fun _ _ e => e))
    cases v <;> first | exact hv.elim | exact wpAny_pure ⟨_, rfl, hv⟩
  unfold richCompare
  simp only [cmpInfo, ha.oneThing_none]
  refine wpAny_holding (wpAny_bind (wpAny_cRoomFor hu ?_))
  refine wpAny_bind (wpAny_typeOf ha (wpAny_bind (I.type.here ?_)))
  have hne : (Value.ref C == Value.type Ta) = false := rfl
  have hne' : (Value.type Ta != Value.ref C) = true := rfl
  simp only [hne', if_true]
  refine wpAny_bind ((PySem.W.looks_subIn X hsub).here ?_)
  simp only [Bool.false_eq_true, if_false, Bool.not_false, if_true]
  refine wpAny_bind (m := tryCompare a _ _) (wpAny_tryCompare_declines ha h1 (hc _ ⟨rfl, ?_⟩))
  refine wpAny_bind (wpAny_mono one (fun r s' z => ?_) fun _ _ e => e)
  obtain ⟨v, rfl, hq⟩ := z
  exact wpAny_pure hq
end
theorem int_eq_declines_ins (b : Int) (u : Tok) (l : Addr) (o : Obj) :
    PySem.Meets (Builtin.«int.__eq__» ⟨[.int b u, .ref l], []⟩) (fun _ R s => s.heap.get? l = some o ∧ o.data = .plain ∧ (∃ C, o.cls = .ref C) ∧ R (.ok (.ret .notImplemented)) s) :=
  .of_wp fun prog w A R s h => by
    obtain ⟨hp, g, d, tk, os⟩ := s
    obtain ⟨hl, hd, ⟨C, hC⟩, h⟩ := h
    obtain ⟨cls, dd, dat, sl⟩ := o
    cases hd
    cases hC
    wp_walk using PySem.AutoSeq1.wpAny_loadPart' hl, wpAny_load hl
    exact ⟨_, rfl, h⟩
theorem str_eq_declines_ins (b : Str) (u : Tok) (l : Addr) (o : Obj) :
    PySem.Meets (Builtin.«str.__eq__» ⟨[.str b u, .ref l], []⟩) (fun _ R s => s.heap.get? l = some o ∧ o.data = .plain ∧ (∃ C, o.cls = .ref C) ∧ R (.ok (.ret .notImplemented)) s) :=
  .of_wp fun prog w A R s h => by
    obtain ⟨hp, g, d, tk, os⟩ := s
    obtain ⟨hl, hd, ⟨C, hC⟩, h⟩ := h
    obtain ⟨cls, dd, dat, sl⟩ := o
    cases hd
    cases hC
    wp_walk using PySem.AutoSeq1.wpAny_loadPart' hl, wpAny_load hl
    exact ⟨_, rfl, h⟩
/-- the type of a scalar or of an instance -/
inductive TyE (H : Hp) : V → Value → Prop where
  | non : TyE H .non (.type "NoneType")
  | bl (b : Bool) : TyE H (.bl b) (.type "bool")
  | int (i : Int) : TyE H (.int i) (.type "int")
  | str (x : Str) : TyE H (.str x) (.type "str")
  | ins {a C dx : Addr} {fs : List (Str × V)} (e : H a = some (.ins C dx fs)) : TyE H (.ref a) (.ref C)
theorem TyE.looks {X : Cx} {pins : List (Addr × Obj)} {s : Shared} {σ : St} {H : Hp} {y : V} {u t : Value} (I : Inv X pins σ H s) (r : RelV y u) (ty : TyE H y t) : PySem.W.Looks (model X.prog X.w) s.heap (typeOf u) t := by
  cases ty with
  | non => cases (show u = Value.none from r); exact .of_pure rfl
  | bl b => cases (show u = Value.bool b from r); exact .of_pure rfl
  | int i => obtain ⟨t', e⟩ := (show ∃ t, u = Value.int i t from r); cases e; exact .of_pure rfl
  | str x => obtain ⟨t', e⟩ := (show ∃ t, u = Value.str x t from r); cases e; exact .of_pure rfl
  | ins e =>
    cases (show u = Value.ref _ from r)
    obtain ⟨mA, J, _⟩ := ins_get I.hok e
    obtain ⟨od, J, _⟩ := J.look
    exact J.type
/-- what the call of the own == gives back -/
theorem own_run {X : Cx} {n : Nat} {CX : CXT} {f : Addr} {fd : FuncData} {ps : List Str} {sp : Sp} {E : XK} (F : FnOk X.prog X.w X.K X.mg X.base CX n f fd ps sp) (hb : Binds X.K fd ps []) (hx : Passes CX X E) (hr : Room n X.A)
    {pins : List (Addr × Obj)} {s : Shared} {σ : St} {H : Hp} {x y : V} {v u : Value} {Q : VK} (I : Inv X pins σ H s) (rx : RelV x v) (ry : RelV y u) (h : sp [x, y] H (fun z H' => ∃ b, z = .bl b ∧ Q (.bl b) H') E) :
    wpAny (model X.prog X.w) X.A (call (.ref f) [v, u]) (PySem.W.CmpBack (EP X pins σ Q)) X.xe s := by
  have hl := F.len _ _ _ _ h
  have r2 : Vals [x, y] [v, u] := .cons rx (.cons ry .nil)
  refine wpAny_call (codeAny_mono (F.run X.A X.stack s H ⟨[v, u], []⟩ [v, u] [x, y] _ E hr I.env0 (by
    have := hb s [v, u] I.kIn (by simpa using hl)
    simpa using this) r2 h) fun r s' hq => ?_)
  cases r with
  | error e => exact hx pins σ H s e s' I hq
  | ok fl =>
    cases fl with
    | ret w =>
      obtain ⟨z, H', I', rz, b, ez, q⟩ := I.after hq
      subst ez
      cases (show w = Value.bool b from rz)
      exact ⟨.bl b, H', I', rfl, q⟩
    | next => exact False.elim hq
    | brk => exact False.elim hq
    | cont => exact False.elim hq
/-- an instance with its own == on the left -/
theorem op_eqL {X : Cx} {n : Nat} {CX : CXT} {C f : Addr} {fd : FuncData} {ps : List Str} {sp : Sp} {E : XK} (O : OwnEq X.K C f) (F : FnOk X.prog X.w X.K X.mg X.base CX n f fd ps sp) (hb : Binds X.K fd ps []) (hx : Passes CX X E) (hr : Room n X.A) :
    OpR X (compareOp .Eq) (fun x y H Q => ∃ a dx fs tb, x = .ref a ∧ H a = some (.ins C dx fs) ∧ TyE H y tb ∧ PySem.W.notFirst X.K C tb = true ∧ sp [x, y] H (fun z H' => ∃ b, z = .bl b ∧ Q (.bl b) H') E) := by
  intro pins s σ H x y v u Q I rx ry h
  obtain ⟨a, dx, fs, tb, rfl, ha, ty, hn, h⟩ := h
  cases (show v = Value.ref a from rx)
  obtain ⟨mA, J, _⟩ := ins_get I.hok ha
  obtain ⟨od, J, _⟩ := J.look
  obtain ⟨m, hF⟩ := I.fr
  show wpAny (model X.prog X.w) X.A (richCompare .Eq (.ref a) u) (EP X pins σ Q) X.xe s
  exact PySem.W.cmp_K (op := .Eq) hr.units0 hF I.ok.mod.kin J (ty.looks I ry) hn O.at_ O.fn (own_run F hb hx hr I (x := .ref a) (v := .ref a) rfl ry h)
/-- a scalar on the left, an instance with its own == on the right -/
theorem op_eqR {X : Cx} {n : Nat} {CX : CXT} {C f : Addr} {fd : FuncData} {ps : List Str} {sp : Sp} {E : XK} (O : OwnEq X.K C f) (F : FnOk X.prog X.w X.K X.mg X.base CX n f fd ps sp) (hb : Binds X.K fd ps []) (hx : Passes CX X E) (hr : Room n X.A)
    (h1 : PySem.W.subIn X.K (.ref C) (.type "NoneType") = some false) (h2 : PySem.W.subIn X.K (.ref C) (.type "int") = some false) (h3 : PySem.W.subIn X.K (.ref C) (.type "str") = some false) :
    OpR X (compareOp .Eq) (fun x y H Q => ∃ a dx fs, y = .ref a ∧ H a = some (.ins C dx fs) ∧ (x = .non ∨ (∃ i, x = .int i) ∨ ∃ z, x = .str z) ∧ sp [y, x] H (fun z H' => ∃ b, z = .bl b ∧ Q (.bl b) H') E) := by
  intro pins s σ H x y v u Q I rx ry h
  obtain ⟨a, dx, fs, rfl, ha, hx', h⟩ := h
  cases (show u = Value.ref a from ry)
  obtain ⟨mA, J, _⟩ := ins_get I.hok ha
  have hob := J.obj
  obtain ⟨od, J, _⟩ := J.look
  obtain ⟨m, hF⟩ := I.fr
  show wpAny (model X.prog X.w) X.A (richCompare .Eq v (.ref a)) (EP X pins σ Q) X.xe s
  have hc := own_run F hb hx hr I (x := .ref a) (v := .ref a) (u := v) rfl rx h
  rcases hx' with rfl | ⟨i, rfl⟩ | ⟨z, rfl⟩
  · cases (show v = Value.none from rx)
    exact cmp_back hr.units0 hF I.ok.mod.kin J (Ta := "NoneType") rfl PySem.F.slot_NoneType_eq h1 (fun Q' hq => call_gives PySem.F.slot_NoneType_eq rfl PySem.F.entry_NoneType_eq (PySem.F.args_NoneType_eq_2 _ _) (SeqAt.NoneType___eq___none_ref_0 a) hq) O.at_ O.fn hc
  · obtain ⟨t, rfl⟩ := (show ∃ t, v = Value.int i t from rx)
    exact cmp_back hr.units0 hF I.ok.mod.kin J (Ta := "int") (typeIs_int s i t) PySem.F.slot_int_eq h2 (fun Q' hq => call_meets PySem.F.slot_int_eq (typeIs_int s i t) PySem.F.entry_int_eq (PySem.F.args_int_eq_2 _ _) (int_eq_declines_ins i t a _) ⟨hob, rfl, ⟨_, rfl⟩, hq⟩) O.at_ O.fn hc
  · obtain ⟨t, rfl⟩ := (show ∃ t, v = Value.str z t from rx)
    exact cmp_back hr.units0 hF I.ok.mod.kin J (Ta := "str") (typeIs_str s z t) PySem.F.slot_str_eq h3 (fun Q' hq => call_meets PySem.F.slot_str_eq (typeIs_str s z t) PySem.F.entry_str_eq (PySem.F.args_str_eq_2 _ _) (str_eq_declines_ins z t a _) ⟨hob, rfl, ⟨_, rfl⟩, hq⟩) O.at_ O.fn hc
end My
namespace My
open PySem L2 SX XS
/-! ### integers -/
@[irreducible] def big : Nat := 10 ^ 300
theorem big_bits : big < 2 ^ 997 := by unfold big; decide +kernel
theorem bits_big : 2 ^ 996 ≤ big := by unfold big; decide +kernel
theorem small_big {n : Nat} (h : n ≤ 1000000000000000000000000000000) : n < big := Nat.lt_of_le_of_lt h (by unfold big; decide +kernel)
theorem nat_bits {n : Nat} (h : n.log2 < 996) : n < 2 ^ 996 := by
  by_cases h0 : n = 0
  · rw [h0]; exact Nat.two_pow_pos _
  · exact (Nat.log2_lt h0).mp h
theorem lt_of_bits {i : Int} (h : (Builtin.Int.intBits i : Int) < 997) : i.natAbs < big := by
  have h' : Builtin.Int.intBits i < 997 := by exact_mod_cast h
  unfold Builtin.Int.intBits at h'
  refine Nat.lt_of_lt_of_le (nat_bits ?_) bits_big
  split at h' 
  · rename_i h0
    have : i.natAbs = 0 := by simp_all
    rw [this]; decide
  · omega
theorem fit_iff {i : Int} : i.natAbs < big ↔ -(big : Int) < i ∧ i < big := by omega
theorem fmod_abs {a b : Int} (h : b ≠ 0) : (a - b * a.fdiv b).natAbs < b.natAbs := by
  have e : a - b * a.fdiv b = a.fmod b := by
    have := Int.mul_fdiv_add_fmod a b
    omega
  rw [e, Int.fmod_eq_emod]
  have h1 := Int.emod_nonneg a h
  have h2 : a % b < b.natAbs := by
    have := Int.emod_lt a h
    omega
  by_cases hb : 0 ≤ b ∨ b ∣ a
  · rw [if_pos hb]
    omega
  · rw [if_neg hb]
    have h3 : a % b ≠ 0 := fun z => hb (.inr (Int.dvd_of_emod_eq_zero z))
    have h4 : b < 0 := by
      have := fun z => hb (.inl z)
      omega
    omega
/-! ### operators of integers of any size -/
section
variable {X : Cx}
def CDivX (_ j : Int) : Prop := j ≠ 0 ∧ j.natAbs.log2 < 9000
theorem op_fdivX : OpR X (binaryOp .FloorDiv) (rI CDivX fun i j => .int (i.fdiv j)) := opI fun _ _ _ _ _ _ _ hc q => PyProof.Rows.floordiv_int hc.1 q (.inl (PyProof.noPylong_of_log2 hc.2))
def CPowX (i j : Int) : Prop := 0 ≤ j ∧ (Builtin.Int.intBits i : Int) * j ≤ 2 ^ 27
theorem op_powX : OpR X (binaryOp .Pow) (rI CPowX fun i j => .int (i ^ j.toNat)) := opI fun _ _ _ _ _ _ _ hc q => PyProof.Rows.pow_int hc.1 hc.2 q
theorem divx_ok {i j : Int} (h : j ≠ 0) (hb : j.natAbs < big) : CDivX i j := by
  refine ⟨h, ?_⟩
  have : j.natAbs < 2 ^ 997 := Nat.lt_trans hb big_bits
  exact Nat.lt_of_lt_of_le (PySem.Flt.log2_lt_of (by decide) this) (by decide)
end
end My
namespace My
open PySem L2 SX XT XS XE XD XL
open C8 (pss_cut tCut cutS_slice pe_gc)
theorem sqt_keep {K : PySem.W.Frag} {H H' : Hp} {p r : Addr} {xs ys : List V} (hk : Keep p H H') (hp : H p = some (.lst ys)) (h : SqT K H r xs) : SqT K H' r xs := by
  rcases h with (h | ⟨ob, h⟩) | h
  · exact .inl (.inl (hk _ _ h fun z => by rw [z, hp] at h; cases h))
  · exact .inl (.inr ⟨ob, hk _ _ h fun z => by rw [z, hp] at h; cases h⟩)
  · exact .inr h
variable {P : Program} {w : World} {K : PySem.W.Frag} {mg : Str → Option Value} {base : Heap} {A : Ads}
def StL (K : PySem.W.Frag) (H : Hp) (a p : Addr) (ns : List Int) : Prop := ∃ x k : Int, H p = some (.lst [.int x, .int k, .ref a]) ∧ 0 ≤ k ∧ SqL K H a (ns.map V.int)
theorem sql_keep {H H' : Hp} {a p : Addr} {x k : Int} {ns : List Int} (hk : Keep p H H') (hp : H p = some (.lst [.int x, .int k, .ref a])) (h : SqL K H a (ns.map V.int)) : SqL K H' a (ns.map V.int) := by
  rcases h with (h | ⟨ob, h⟩) | h
  · refine .inl (.inl (hk _ _ h fun z => ?_))
    rw [z, hp] at h
    have := Option.some.inj h
    injection this with e
    match ns, e with
    | [], e => cases e
    | [_], e => simp at e
    | [_, _], e => simp at e
    | _ :: _ :: _ :: _, e => simp at e
  · refine .inl (.inr ⟨ob, hk _ _ h fun z => ?_⟩)
    rw [z, hp] at h
    cases h
  · exact .inr h
theorem StL.same {H H' : Hp} {a p : Addr} {ns : List Int} (s : Same H H') (h : StL K H a p ns) : StL K H' a p ns := by
  obtain ⟨x, k, h1, h2, h3⟩ := h
  exact ⟨x, k, s _ _ h1, h2, s.seq h3⟩
def spCell (K : PySem.W.Frag) : Sp := fun vs H Q _ => ∃ (a : Addr) (ns : List Int) (k : Int), vs = [.ref a, .int k] ∧ SqL K H a (ns.map V.int) ∧ 0 ≤ k ∧ ∀ c : Int, Q (.int c) H
theorem ok_law_cell (L : Lib P K mg A) : FnOk P w K mg base CX0 1 L.law_cell.f L.law_cell.fd ["script", "k"] (spCell K) := by
  refine L.law_cell.F.ok sc_law_cell (fun vs H Q E h => ?_) (fun cdv A' outer s H vs Q E hr h => ?_)
  · obtain ⟨a, ns, k, rfl, _⟩ := h
    rfl
  · obtain ⟨a, ns, k, rfl, hS, h0, q⟩ := h
    refine ⟨_, pss_cons (ps_if (pt_cmpR op_lt (pv 1) (pe_callB call_len_seq (by rfl) L.z_len PySem.boot_len (pa_cons (pv 0) pa_nil)) (nomark _))
        (pss_one (ps_ret (pe_ix ix_list (pv 0) (pv 1) (fun _ _ => rfl))))
        pss_nil)
      (pss_one (ps_ret pe_int)), ?_⟩
    refine ⟨_, rfl, _, rfl, a, _, rfl, .inl hS, _, _, rfl, rfl, _, rfl, ite2 (fun e => ?_) (fun e => q 0)⟩
    have e1 : k < ((ns.map V.int).length : Nat) := of_decide_eq_true e
    obtain ⟨j, rfl⟩ : ∃ j : Nat, k = (j : Int) := ⟨k.toNat, by omega⟩
    have hj : j < ns.length := by
      rw [List.length_map] at e1
      omega
    refine ⟨_, rfl, _, rfl, a, _, _, V.int ns[j], rfl, rfl, hS, atI_nat ?_, q _⟩
    rw [List.getElem?_map, List.getElem?_eq_getElem hj]
    rfl
def spBegin (K : PySem.W.Frag) : Sp := fun vs H Q _ => ∃ (a : Addr) (ns : List Int) (k : Int), vs = [.ref a, .int k] ∧ SqL K H a (ns.map V.int) ∧ 0 ≤ k ∧ ∀ H' p, H p = none → Same H H' → StL K H' a p ns → Q (.ref p) H'
theorem ok_law_begin (L : Lib P K mg A) : FnOk P w K mg base CX0 1 L.law_begin.f L.law_begin.fd ["script", "k"] (spBegin K) := by
  refine L.law_begin.F.ok sc_law_begin (fun vs H Q E h => ?_) (fun cdv A' outer s H vs Q E hr h => ?_)
  · obtain ⟨a, ns, k, rfl, _⟩ := h
    rfl
  · obtain ⟨a, ns, k, rfl, hS, h0, q⟩ := h
    refine ⟨_, pss_one (ps_ret (pe_lst (pa_cons pe_int (pa_cons (pv 1) (pa_cons (pv 0) pa_nil))))), ?_⟩
    refine ⟨_, rfl, _, rfl, (by show 3 ≤ sizeLine; decide), fun p hp => q _ p hp (same_upd hp) ⟨0, k, upd_same, h0, (same_upd hp).seq hS⟩⟩
def spDraw (K : PySem.W.Frag) : Sp := fun vs H Q _ => ∃ (a p : Addr) (ns : List Int) (many : Int), vs = [.ref p, .int many] ∧ StL K H a p ns ∧ 0 < many ∧ many.natAbs < 2 ^ 80 ∧ ∀ H' (r : Int), Keep p H H' → StL K H' a p ns → 0 ≤ r → r < many → Q (.int r) H'
theorem ok_law_draw (L : Lib P K mg A) : FnOk P w K mg base CX0 2 L.law_draw.f L.law_draw.fd ["state", "many"] (spDraw K) := by
  have GC : FnOk P w K mg base CX0 1 L.law_cell.f L.law_cell.fd ["script", "k"] (spCell K) := ok_law_cell L
  refine L.law_draw.F.ok sc_law_draw (fun vs H Q E h => ?_) (fun cdv A' outer s H vs Q E hr h => ?_)
  · obtain ⟨a, p, ns, many, rfl, _⟩ := h
    rfl
  · obtain ⟨a, p, ns, many, rfl, ⟨x, k, hp, hk, hS⟩, h0, h1, q⟩ := h
    refine ⟨_, pss_cut (ps_if (pt_cmpR op_lt (pe_ix ix_list (pv 0) pe_int (fun _ _ => rfl)) (pv 1) (nomark _))
        (pss_cons (ps_set (i := 2) sc_law_draw.nd rfl (.inl rfl) (pe_ix ix_list (pv 0) pe_int (fun _ _ => rfl)))
        (pss_cons (ps_set (i := 3) sc_law_draw.nd rfl (.inl rfl) (pe_call GC hr (by rfl) L.law_cell.g L.law_cell.F.kp L.law_cell.b .nil pass0 (pa_cons (pe_ix ix_list (pv 0) pe_int (fun _ _ => rfl)) (pa_cons (pv 2) pa_nil))))
        (pss_cons (ps_set (i := 4) sc_law_draw.nd rfl (.inl rfl) pe_int)
        (pss_cons (ps_asg (pe_op op_add (pv 2) pe_int) (pg_sub (pv 0) pe_int set_list))
        (pss_cons (ps_asg (pe_callB call_abs (by rfl) L.z_abs (by decide +kernel) (pa_cons (pv 3) pa_nil)) (pg_sub (pv 0) pe_int set_list))
        (pss_one (ps_if (pt_chain op_lt op_lt (pe_un un_neg pe_int) (pv 3) pe_int)
          (pss_cons (ps_set (i := 5) sc_law_draw.nd rfl (.inl rfl) (pe_op op_mod (pe_callTy call_int1 (by rfl) L.z_int (by decide +kernel) (pa_cons (pe_op op_add (pe_op op_mul (pv 3) pe_int) (pe_op op_mul (pe_op op_add (pv 2) pe_int) pe_int)) pa_nil)) (pv 4)))
          (pss_one (ps_asg (pe_op op_add (pe_op op_mod (pe_callTy call_int1 (by rfl) L.z_int (by decide +kernel) (pa_cons (pe_op op_add (pe_op op_add (pe_op op_mulW (pv 5) (pv 5)) (pe_op op_mul pe_int (pv 5))) (pv 2)) pa_nil)) (pv 4)) (pv 4)) (pg_sub (pv 0) pe_int set_list))))
          pss_nil)))))))
        pss_nil)
      (pss_cons (ps_set (i := 6) sc_law_draw.nd rfl (.inl rfl) (pe_op op_mod (pe_callTy call_int1 (by rfl) L.z_int (by decide +kernel) (pa_cons (pe_ix ix_list (pv 0) pe_int (fun _ _ => rfl)) pa_nil)) (pv 1)))
      (pss_cons (ps_asg (pe_op op_fdivW (pe_ix ix_list (pv 0) pe_int (fun _ _ => rfl)) (pv 1)) (pg_sub (pv 0) pe_int set_list))
      (pss_one (ps_ret (pv 6))))), ?_⟩
    let M : List (Option V) → Hp → Prop := fun σ' H' => ∃ (y2 y3 y4 y5 : Option V) (x k : Int), σ' = [some (.ref p), some (.int many), y2, y3, y4, y5, none] ∧ Keep p H H' ∧ H' p = some (.lst [.int x, .int k, .ref a]) ∧ 0 ≤ k
    refine ⟨M, ⟨_, rfl, p, _, _, _, rfl, rfl, SqL.of hp, rfl, _, rfl, _, _, rfl, rfl, _, rfl, ite2 (fun e => ?_) (fun e => ⟨none, none, none, none, x, k, rfl, fun _ _ e _ => e, hp, hk⟩)⟩, ?_⟩
    · refine ⟨_, rfl, p, _, _, _, rfl, rfl, SqL.of hp, rfl, ?_⟩
      refine ⟨_, rfl, p, _, _, _, rfl, rfl, SqL.of hp, rfl, _, rfl, a, ns, k, rfl, hS, hk, fun cell => ?_⟩
      refine ⟨_, rfl, _, _, rfl, rfl, _, rfl, p, _, _, _, rfl, rfl, hp, rfl, ?_⟩
      refine ⟨_, rfl, _, rfl, _, rfl, p, _, _, _, rfl, rfl, upd_same, rfl, ?_⟩
      have fin : ∀ (z z' : Int) (Hx : Hp), Keep p H Hx → Keep p H (upd Hx p (.lst [.int z, .int z', .ref a])) := fun z z' Hx kx b o e n => by
        rw [upd_ne n]
        exact kx b o e n
      have k0 : Keep p H H := fun _ _ e _ => e
      have kA := fin x (k + 1) H k0
      have kB := fin (if cell < 0 then -cell else cell) (k + 1) _ kA
      have eB : upd (upd H p (.lst [.int x, .int (k + 1), .ref a])) p (.lst [.int (if cell < 0 then -cell else cell), .int (k + 1), .ref a]) p = some (.lst [.int (if cell < 0 then -cell else cell), .int (k + 1), .ref a]) := upd_same
      have done : ∀ (y5 : Option V) (z : Int) (Hx : Hp), Keep p H Hx → Hx p = some (.lst [.int z, .int (k + 1), .ref a]) → M [some (.ref p), some (.int many), some (.int k), some (.int cell), some (.int 618970019642690137449562111), y5, none] Hx := fun y5 z Hx k1 e1 => ⟨_, _, _, _, z, k + 1, rfl, k1, e1, by omega⟩
      refine ⟨_, rfl, _, rfl, _, _, rfl, rfl, _, rfl, ite2 (fun e1 => ⟨_, _, rfl, rfl, _, rfl, ite2 (fun e2 => ?_) (fun _ => done none _ _ kB eB)⟩) (fun _ => ⟨_, rfl, iteF (done none _ _ kB eB)⟩)⟩
      refine ⟨_, rfl, _, _, rfl, rfl, .inr ⟨by decide, by decide⟩, _, rfl, _, _, rfl, rfl, _, _, rfl, rfl, .inr ⟨by decide, by decide⟩, _, _, rfl, rfl, .inl ⟨_, rfl, _, rfl, _, _, rfl, rfl, (by show (0 : Int) < 618970019642690137449562111; decide), ?_⟩⟩
      dsimp only
      have m0 : 0 ≤ (cell * 2654435761 + (k + 1) * 6700417) % 618970019642690137449562111 := Int.emod_nonneg _ (by decide)
      have m1 : (cell * 2654435761 + (k + 1) * 6700417) % 618970019642690137449562111 < 618970019642690137449562111 := Int.emod_lt_of_pos _ (by decide)
      generalize (cell * 2654435761 + (k + 1) * 6700417) % 618970019642690137449562111 = mx at m0 m1 ⊢
      have mb : mx.natAbs < 2 ^ 90 := by
        have : (2 : Nat) ^ 90 = 1237940039285380274899124224 := by decide
        omega
      refine ⟨_, rfl, _, rfl, _, _, rfl, rfl, wide_mul mb mb (by decide) (by decide) (by decide), _, rfl, _, _, rfl, rfl, .inl ⟨by decide, by decide⟩, _, _, rfl, rfl, _, rfl, _, _, rfl, rfl, .inl ⟨_, rfl, _, rfl, _, _, rfl, rfl, (by show (0 : Int) < 618970019642690137449562111; decide), _, rfl, _, _, rfl, rfl, _, rfl, p, _, _, _, rfl, rfl, eB, rfl, ?_⟩⟩
      exact done _ _ _ (fin _ _ _ kB) upd_same
    rintro σ' H' ⟨y2, y3, y4, y5, x', k', rfl, k1, hp', hk'⟩
    refine ⟨_, rfl, p, _, _, _, rfl, rfl, SqL.of hp', rfl, .inl ⟨_, rfl, _, rfl, _, _, rfl, rfl, h0, ?_⟩⟩
    refine ⟨_, rfl, p, _, _, _, rfl, rfl, SqL.of hp', rfl, _, rfl, _, _, rfl, rfl, wide_div h0 h1 (by decide) (by decide), _, rfl, p, _, _, _, rfl, rfl, hp', rfl, ?_⟩
    have k2 : Keep p H (upd H' p (.lst [.int (x' / many), .int k', .ref a])) := fun b o e n => by
      rw [upd_ne n]
      exact k1 b o e n
    exact ⟨_, rfl, q _ _ k2 ⟨_, k', upd_same, hk', sql_keep k2 hp hS⟩ (Int.emod_nonneg _ (by omega)) (Int.emod_lt_of_pos _ h0)⟩
section
variable {P : Program} {w : World} {K : PySem.W.Frag} {mg : Str → Option Value} {base : Heap} {A : Ads}
def spPick (K : PySem.W.Frag) : Sp := fun vs H Q _ => ∃ (a p r : Addr) (ns : List Int) (xs : List V), vs = [.ref p, .ref r] ∧ StL K H a p ns ∧ SqT K H r xs ∧ 0 < xs.length ∧ xs.length ≤ 100 ∧ ∀ H' v, v ∈ xs → Keep p H H' → StL K H' a p ns → Q v H'
theorem ok_law_pick (L : Lib P K mg A) : FnOk P w K mg base CX0 3 L.law_pick.f L.law_pick.fd ["state", "row"] (spPick K) := by
  have GD : FnOk P w K mg base CX0 2 L.law_draw.f L.law_draw.fd ["state", "many"] (spDraw K) := ok_law_draw L
  refine L.law_pick.F.ok sc_law_pick (fun vs H Q E h => ?_) (fun cdv A' outer s H vs Q E hr h => ?_)
  · obtain ⟨a, p, r, ns, xs, rfl, _⟩ := h
    rfl
  · obtain ⟨a, p, r, ns, xs, rfl, hst, ht, h0, h1, q⟩ := h
    refine ⟨_, pss_one (ps_ret (pe_ix ix_tup (pv 1) (pe_call GD hr (by rfl) L.law_draw.g L.law_draw.F.kp L.law_draw.b .nil pass0 (pa_cons (pv 0) (pa_cons (pe_callB call_len_seq (by rfl) L.z_len PySem.boot_len (pa_cons (pv 1) pa_nil)) pa_nil))) (fun _ _ => rfl))), ?_⟩
    refine ⟨_, rfl, _, rfl, _, rfl, r, _, rfl, .inr ht, a, p, ns, _, rfl, hst, by omega, by omega, fun H' i k1 st i0 i1 => ?_⟩
    obtain ⟨j, rfl⟩ : ∃ j : Nat, i = (j : Int) := ⟨i.toNat, by omega⟩
    have hj : j < xs.length := by omega
    obtain ⟨x, k, hp, _⟩ := hst
    exact ⟨r, xs, _, xs[j], rfl, rfl, sqt_keep k1 hp ht, atI_nat (List.getElem?_eq_getElem hj), q H' _ (List.getElem_mem hj) k1 st⟩
end
end My
namespace My
open PySem L2 SX XT XS XE
open C8 (pss_cut tCut cutS_slice pe_gc)
theorem evSE (cda cc : Addr) : (supOf sx_ScriptError "ScriptError.__init__" cda cc).Ev := fun env => ⟨⟨_, by rfl⟩, by rfl, by rfl⟩
theorem bodySE (cda cc : Addr) : defBody sx_ScriptError = (supOf sx_ScriptError "ScriptError.__init__" cda cc).body := by rfl
theorem scSE : NdefX.NScope ["self", "kind", "message", "__class__"] ["self", "kind", "message"] ["__class__"] (defScope sx_ScriptError) := NdefX.nscope_by (by decide +kernel)
section
variable {P : Program} {w : World} {K : PySem.W.Frag} {mg : Str → Option Value} {base : Heap} {cE fI cda cc : Addr}
theorem lt_len {s : Str} (h : s.length ≤ 100000) : s.length ≤ sizeLine := by rw [sizeLine_eq]; omega
theorem ok_SE {dV kV doc pm ct oc : Value} {an od : Option Addr} {osl : Array (Option Value)} (lk : K.lookup fI = some ⟨oc, od, .func (PySem.W.ksFn "__init__" "ScriptError.__init__" (defArgs sx_ScriptError) (defBody sx_ScriptError) (defScope sx_ScriptError) dV kV doc pm an (.ref cda) ct cc), osl⟩)
    (hcd : PySem.W.codeIn K (.ref cda) "ScriptError.__init__" = true) (T : Exn P K mg cE fI "kind" "message") (U : Sup P K mg cda cc cE cE) :
    FnOk P w K mg base CX0 1 fI (PySem.W.ksFn "__init__" "ScriptError.__init__" (defArgs sx_ScriptError) (defBody sx_ScriptError) (defScope sx_ScriptError) dV kV doc pm an (.ref cda) ct cc) ["self", "kind", "message"] (spTwo cE "kind" "message") := by
  refine fn_super (D := cE) (F := supOf sx_ScriptError "ScriptError.__init__" cda cc) lk hcd scSE rfl rfl (show (defScope sx_ScriptError).names.lookup ("super" : Str) = some .globalImplicit by decide +kernel) (evSE cda cc) (fun vs H Q E h => ?_) (fun A outer s H vs Q E hr h => ?_)
  · obtain ⟨a, v1, v2, rfl, _⟩ := h
    rfl
  · obtain ⟨a, v1, v2, rfl, ha, ⟨k1, rfl, z1⟩, ⟨k2, rfl, z2⟩, q⟩ := h
    refine ⟨a, cE, _, _, rfl, ha, T.oex, U, pa_cons (pe_joined (.cons (pe_fmt (pv 1)) (.cons pe_str (.cons (pe_fmt (pv 2)) .nil)))) pa_nil, pss_cons (ps_ost (pv 0) (pv 1)) (pss_one (ps_ost (pv 0) (pv 2))), ?_⟩
    have l0 : (Str.empty : Str).length = 0 := by decide +kernel
    have l2 : ((": " : Str)).length = 2 := by decide +kernel
    refine ⟨_, rfl, .inl ⟨k1, rfl, lt_len z1, k1, rfl, ?_, ?_⟩⟩
    · rw [Str.length_append, l0, sizeLine_eq]
      omega
    · refine ⟨_, rfl, ?_, _, rfl, .inl ⟨k2, rfl, lt_len z2, k2, rfl, ?_, ?_⟩⟩
      · rw [Str.length_append, Str.length_append, l0, l2, sizeLine_eq]
        omega
      · rw [Str.length_append, Str.length_append, Str.length_append, l0, l2, sizeLine_eq]
        omega
      · refine ⟨by show 1 ≤ 1000; omega, ha, ?_⟩
        refine ⟨_, rfl, _, rfl, a, cE, rfl, T.oex, T.n1, .inl ⟨ha, fun d hd hne => ?_⟩⟩
        refine ⟨_, rfl, _, rfl, a, cE, rfl, T.oex, T.n2, .inr ⟨d, [("kind", .str k1)], upd_same, ?_, (by show 1 ≤ 900; omega), ?_⟩⟩
        · rw [upd_ne hne]
          exact upd_same
        · exact q d hd hne
end
end My
namespace My
open PySem L2 SX XS
open C8 (pss_cut tCut cutS_slice pe_gc)
/-! ### the square root -/
theorem root8 : ∀ n, n < 8 → Float64.rootBelow8 n * Float64.rootBelow8 n ≤ n ∧ n < (Float64.rootBelow8 n + 1) * (Float64.rootBelow8 n + 1) := by decide +kernel
theorem sq_lt {a b : Nat} (h : a * a < b * b) : a < b := by
  by_cases hc : a < b
  · exact hc
  · exact absurd h (Nat.not_lt.mpr (Nat.mul_le_mul (by omega) (by omega)))
theorem sq_le {a b : Nat} (h : a ≤ b) : a * a ≤ b * b := Nat.mul_le_mul h h
/-- one step of the root, T = 4 ^ k, t = 2 ^ k -/
theorem root_step {n m r t T x q y : Nat} (hT : T = t * t) (hm : m = n / T) (hr : r * r ≤ m) (hr1 : m < (r + 1) * (r + 1)) (ht : 2 ≤ t) (hTn : T * T ≤ 2 * n) (hx : x = (r + 1) * t) (hq : q = n / x) (hy : y = (x + q) / 2) :
    (y - 1) * (y - 1) ≤ n ∧ n < (y + 1) * (y + 1) := by
  have t0 : 0 < T := by rw [hT]; exact Nat.mul_pos (by omega) (by omega)
  have x0 : 0 < x := by rw [hx]; exact Nat.mul_pos (by omega) (by omega)
  have n1 : m * T ≤ n := by rw [hm]; exact Nat.div_mul_le_self n T
  have n2 : n < (m + 1) * T := by have h1 := Nat.div_add_mod n T; have h2 := Nat.mod_lt n t0; rw [hm, Nat.add_mul, Nat.one_mul, Nat.mul_comm]; omega
  have q1 : x * q ≤ n := by rw [hq]; exact Nat.mul_div_le n x
  have q2 : n < x * (q + 1) := by rw [hq]; exact Nat.lt_mul_div_succ n x0
  have xx : x * x = (r + 1) * (r + 1) * T := by
    rw [hx, hT]
    rw [Nat.mul_mul_mul_comm]
  have xn : n < x * x := by
    rw [xx]
    exact Nat.lt_of_lt_of_le n2 (Nat.mul_le_mul_right _ hr1)
  have qx : q ≤ x := by
    by_cases h : q ≤ x
    · exact h
    · have : x * x ≤ x * q := Nat.mul_le_mul_left _ (by omega)
      omega
  -- (x + q + 1)² > 4 n
  have am : 4 * n < (x + q + 1) * (x + q + 1) := by
    have e : (x + q + 1) * (x + q + 1) = 4 * (x * (q + 1)) + (x - q - 1) * (x - q - 1) ∨ x = q := by
      by_cases h : x = q
      · exact .inr h
      · left
        obtain ⟨d, rfl⟩ : ∃ d, x = q + 1 + d := ⟨x - q - 1, by omega⟩
        rw [show q + 1 + d - q - 1 = d by omega]
        simp only [Nat.mul_add, Nat.add_mul, Nat.mul_one, Nat.one_mul, Nat.mul_comm d q]
        omega
    rcases e with e | e
    · rw [e]; omega
    · subst e
      have : (x + x + 1) * (x + x + 1) = 4 * (x * (x + 1)) + 1 := by
        simp only [Nat.mul_add, Nat.add_mul, Nat.mul_one, Nat.one_mul]
        omega
      rw [this]; omega
  refine ⟨?_, ?_⟩
  · -- d = x - q ≤ 2 t
    obtain ⟨d, hd⟩ : ∃ d, x = q + d := ⟨x - q, by omega⟩
    have hd2 : d ≤ 2 * t := by
      by_cases h : d ≤ 2 * t
      · exact h
      · exfalso
        have h1 : x * d = x * x - x * q := by
          have : x * x = x * q + x * d := by rw [← Nat.mul_add, ← hd]
          omega
        have h2 : x * (2 * t + 1) ≤ x * d := Nat.mul_le_mul_left _ (by omega)
        have h3 : x * x < n + (2 * r + 1) * T + 1 := by
          have : r * r * T ≤ n := Nat.le_trans (Nat.mul_le_mul_right _ hr) n1
          have e : (r + 1) * (r + 1) * T = r * r * T + (2 * r + 1) * T := by
            rw [← Nat.add_mul]
            congr 1
            simp only [Nat.mul_add, Nat.add_mul, Nat.mul_one, Nat.one_mul]
            omega
          rw [xx, e]
          omega
        have h4 : x * (2 * t + 1) = 2 * ((r + 1) * T) + x := by
          rw [hx, hT]
          simp only [Nat.mul_add, Nat.add_mul, Nat.mul_one, Nat.one_mul, Nat.mul_assoc, Nat.mul_left_comm t 2]
          simp only [Nat.mul_left_comm r 2]
        have h5 : x * (q + 1) = x * q + x := by rw [Nat.mul_add, Nat.mul_one]
        have h6 : 2 * ((r + 1) * T) = (2 * r + 1) * T + T := by
          simp only [Nat.mul_add, Nat.add_mul, Nat.mul_one, Nat.one_mul, Nat.mul_assoc]
          omega
        omega
    have dd : d * d ≤ 4 * T := by
      refine Nat.le_trans (sq_le hd2) ?_
      rw [hT, Nat.mul_mul_mul_comm]
      exact Nat.le_refl _
    have xq : T + 1 ≤ x + q := by
      by_cases h : T + 1 ≤ x + q
      · exact h
      · exfalso
        have h1 : (x + q + 1) * (x + q + 1) ≤ (T + 1) * (T + 1) := sq_le (by omega)
        have h2 : (T + 1) * (T + 1) = T * T + 2 * T + 1 := by
          simp only [Nat.mul_add, Nat.add_mul, Nat.mul_one, Nat.one_mul]
          omega
        have h3 : 4 ≤ T := by rw [hT]; exact sq_le ht
        have h4 : 4 * T ≤ T * T := Nat.mul_le_mul_right _ h3
        omega
    have y2 : 2 * (y - 1) ≤ x + q - 2 := by omega
    have s1 : 4 * ((y - 1) * (y - 1)) ≤ (x + q - 2) * (x + q - 2) := by
      have := sq_le y2
      rw [Nat.mul_mul_mul_comm] at this
      exact this
    have s2 : (x + q - 2) * (x + q - 2) + 4 * (x + q) = (x + q) * (x + q) + 4 := by
      obtain ⟨z, hz⟩ : ∃ z, x + q = z + 2 := ⟨x + q - 2, by omega⟩
      rw [hz, show z + 2 - 2 = z by omega]
      simp only [Nat.mul_add, Nat.add_mul]
      omega
    have s3 : (x + q) * (x + q) = 4 * (x * q) + d * d := by
      rw [hd]
      simp only [Nat.mul_add, Nat.add_mul, Nat.mul_comm d q]
      omega
    omega
  · have y3 : x + q + 1 ≤ 2 * (y + 1) := by omega
    have := sq_le y3
    rw [Nat.mul_mul_mul_comm] at this
    omega
theorem root_ok : ∀ (l n : Nat), n.log2 ≤ l → Float64.rootByHalves l n * Float64.rootByHalves l n ≤ n ∧ n < (Float64.rootByHalves l n + 1) * (Float64.rootByHalves l n + 1)
  | 0, n, h => by
    refine root8 n ?_
    by_cases h0 : n = 0
    · omega
    · have := (Nat.log2_lt h0 (k := 1)).mp (by omega)
      omega
  | l + 1, n, h => by
    unfold Float64.rootByHalves
    by_cases h8 : n < 8
    · rw [if_pos h8]
      exact root8 n h8
    · rw [if_neg h8]
      have n0 : n ≠ 0 := by omega
      have hL : 3 ≤ n.log2 := (Nat.le_log2 n0).mpr (by omega)
      have hp : 2 ^ n.log2 ≤ n := Nat.log2_self_le n0
      have hlog : (n / 4 ^ ((n.log2 + 1) / 4)).log2 ≤ l := by
        by_cases z : n / 4 ^ ((n.log2 + 1) / 4) = 0
        · rw [z, Nat.log2_zero]; omega
        · refine Nat.le_of_lt_succ ((Nat.log2_lt z).mpr ?_)
          refine Nat.div_lt_of_lt_mul ?_
          have h1 : n < 2 ^ (n.log2 + 1) := (Nat.log2_lt n0).mp (Nat.lt_succ_self _)
          refine Nat.lt_of_lt_of_le h1 ?_
          rw [show (4 : Nat) = 2 ^ 2 from rfl, ← Nat.pow_mul, ← Nat.pow_add]
          exact Nat.pow_le_pow_right (by decide) (by omega)
      have ih := root_ok l (n / 4 ^ ((n.log2 + 1) / 4)) hlog
      dsimp only
      generalize hk : (n.log2 + 1) / 4 = k at ih ⊢
      have k1 : 1 ≤ k := by omega
      generalize Float64.rootByHalves l (n / 4 ^ k) = r at ih ⊢
      have e4 : (4 : Nat) ^ k = 2 ^ k * 2 ^ k := by
        rw [← Nat.mul_pow]
      have ht : 2 ≤ 2 ^ k := Nat.le_trans (by decide) (Nat.pow_le_pow_right (by decide) k1 : 2 ^ 1 ≤ 2 ^ k)
      have hTn : 4 ^ k * 4 ^ k ≤ 2 * n := by
        refine Nat.le_trans ?_ (Nat.mul_le_mul_left 2 hp)
        rw [show (4 : Nat) = 2 ^ 2 from rfl, ← Nat.pow_mul, ← Nat.pow_add, Nat.mul_comm 2 (2 ^ n.log2), ← Nat.pow_succ]
        exact Nat.pow_le_pow_right (by decide) (by omega)
      have st := root_step (n := n) (m := n / 4 ^ k) (r := r) (t := 2 ^ k) (T := 4 ^ k) e4 rfl ih.1 ih.2 ht hTn rfl rfl rfl
      generalize ((r + 1) * 2 ^ k + n / ((r + 1) * 2 ^ k)) / 2 = y at st ⊢
      by_cases hy : y * y > n
      · simp only [if_pos hy]
        refine ⟨st.1, ?_⟩
        have y0 : 0 < y := by
          rcases Nat.eq_zero_or_pos y with z | z
          · subst z; omega
          · exact z
        rw [show y - 1 + 1 = y by omega]
        exact hy
      · simp only [if_neg hy]
        exact ⟨by omega, st.2⟩
def sqr (n : Nat) : Nat := Float64.isqrt n
theorem sqr_ok (n : Nat) : sqr n * sqr n ≤ n ∧ n < (sqr n + 1) * (sqr n + 1) := root_ok _ _ (Nat.le_refl _)
section
variable {X : Cx}
def rSqrt : List V → Hp → VK → Prop := fun vs H Q => ∃ a : Int, vs = [.int a] ∧ 0 ≤ a ∧ a.natAbs < 2 ^ 997 ∧ Q (.int ((sqr a.toNat : Nat) : Int)) H
theorem cr_isqrt : CallR X (.builtin "math.isqrt") rSqrt := by
  intro pins s σ H vs us Q I r h
  obtain ⟨a, rfl, h0, h1, q⟩ := h
  obtain ⟨u, rfl, t, rfl⟩ := vals1 r
  have hl : a.toNat.log2 < 997 := PySem.Flt.log2_lt_of (by decide) (by omega)
  exact call_function_meets PySem.W.MGF.kind_isqrt PySem.W.MGF.plain_isqrt PySem.W.MGF.entry_isqrt (PySem.W.MGF.args_isqrt _) (PySem.W.mg_run_isqrt a t (by omega) (by omega) (by omega)).meets ⟨.int _, H, I.tok _, ⟨_, rfl⟩, q⟩
/-! ### x[::-1], x a text -/
theorem slice_back (x : Str) (k : Tok) : Txt.sliceBy x none none (-1, k) = ⟨x.cps.toList.reverse.toArray⟩ := by
  unfold Txt.sliceBy
  rw [if_neg (by simp)]
  congr 1
  congr 1
  show (Builtin.Str.strSliceIndices none none (-1) x.length).filterMap (x.cps[·]?) = _
  unfold Builtin.Str.strSliceIndices
  simp only [show ¬ ((-1 : Int) > 0) by decide, if_false]
  rw [PySem.W.krv_sliceRange, PySem.W.krv_range]
  show (List.range x.cps.size).reverse.filterMap _ = _
  rw [List.filterMap_reverse, PySem.W.krv_all]
open PySem.Spec PyProof.Rows in
def tBack (te ts : TE) : TE := fun σ H Q => te σ H fun x H1 => ts σ H1 fun y H2 => ∃ z, x = .str z ∧ y = .int (-1) ∧ z.length ≤ sizeLine ∧ Q (.str ⟨z.cps.toList.reverse.toArray⟩) H2
open PySem.Spec PyProof.Rows in
theorem pe_back {e st : Expr} {te ts : TE} {p2 pos : Pos} (he : PE X e te) (hs : PE X st ts) : PE X (.Subscript e (.Slice none none (some st) p2) pos) (tBack te ts) := by
  refine ⟨fun pins s σ H Q I h => ?_⟩
  refine Subscript_ (thn (he.run pins s σ H _ I h) fun v s1 ⟨x, H1, I1, r1, q1⟩ => ?_)
  refine wpAny_Slice ?_
  rw [evalPart_none]
  refine wpAny_pure (wpAny_pure ?_)
  rw [evalPart_some]
  refine thn (hs.run pins s1 σ H1 _ I1 q1) fun u s2 ⟨y, H2, I2, r2, q2⟩ => ?_
  obtain ⟨z, rfl, rfl, hz, q⟩ := q2
  obtain ⟨t, rfl⟩ := r1
  obtain ⟨tk, rfl⟩ := r2
  have I4 : Inv X pins σ H2 { s2 with heap := s2.heap.push { cls := .type "slice", data := .fields #[.none, .none, .int (-1) tk] } } := I2.kept (t' := s2.toks) fun b ob q => Heap.get?_push_of_some _ q
  show wpAny (model X.prog X.w) X.A (subscriptTail e (.Slice none none (some st) p2) (.str z t) (.ref s2.heap.objs.size)) (EP X pins σ Q) X.xe { s2 with heap := s2.heap.push { cls := .type "slice", data := .fields #[.none, .none, .int (-1) tk] } }
  refine tail_any (ops := [.ref s2.heap.objs.size, .str z t]) (typeIs_str _ _ _) F.slot_str_getitem.lookup ?_ (by with_unfolding_all rfl)
  refine wpAny_getItem_str_slice (l := none) (u := none) (st := some (-1, tk)) ⟨_, Heap.get?_push_size _ rfl, rfl, rfl⟩ rfl ?_
  have hl := PySem.Txt.sliceBy_le z none none (-1, tk) (show (-1 : Int) ≠ 0 by decide)
  have e := slice_back z tk
  unfold PySem.Txt.sliceBy at hl e
  unfold sliceMade
  by_cases c : ((((some ((-1 : Int), tk)).map (·.1)).getD 1 == 1 && (slicePicked z none none (some (-1, tk))).length == z.length) = true)
  · rw [if_pos c] at e ⊢
    rw [← e] at q
    exact ⟨.str z, H2, I4, ⟨t, rfl⟩, q⟩
  · rw [if_neg c] at e hl ⊢
    rw [← e] at q
    exact ⟨Nat.le_trans hl hz, .str _, H2, I4.tok _, ⟨_, rfl⟩, q⟩
end
end My
namespace My
open PySem L2
theorem units65 {k : Nat} {A : Around} (r : Room k A) : A.units + 65 < cLine := by have := r.un; omega
theorem units64 {k : Nat} {A : Around} (r : Room k A) : A.units + 64 < cLine := by have := r.un; omega
end My
namespace My
open PySem L2 SX XT XS XE XD XL
open C8 (pss_cut tCut cutS_slice pe_gc)
structure Mth (mg : Str → Option Value) : Prop where
  sq : mg "isqrt" = some (.builtin "math.isqrt")
  gc : mg "gcd" = some (.builtin "math.gcd")
section
variable {P : Program} {w : World} {K : PySem.W.Frag} {mg : Str → Option Value} {base : Heap} {A : Ads}
def Err (E : XK) (cE : Addr) (H : Hp) (k m : Str) : Prop := ∀ d, H d = none → E (.ref cE) (some d) (upd H d (.xd [("message", .str m), ("kind", .str k)]))
theorem nd {p : Prop} [Decidable p] (h : ¬ decide p = true) : ¬ p := fun z => h (decide_eq_true z)
theorem Same.rf {H : Hp} : Same H H := fun _ _ e => e
def spIsBounded : Sp := fun vs H Q _ => ∃ i : Int, vs = [.int i] ∧ Q (.bl (decide (i.natAbs < big))) H
theorem ok_is_bounded (L : Lib P K mg A) : FnOk P w K mg base CX0 1 L.is_bounded.f L.is_bounded.fd ["number"] spIsBounded := by
  refine L.is_bounded.F.ok sc_is_bounded (fun vs H Q E h => ?_) (fun cdv A' outer s H vs Q E hr h => ?_)
  · obtain ⟨i, rfl, _⟩ := h
    rfl
  · obtain ⟨i, rfl, q⟩ := h
    refine ⟨_, (pss_one (ps_ret (pe_or (pe_cmpR op_lt (pe_bits (pv 0)) (pe_glob (v := .int 997) (by rfl) L.v_DOUBTFUL_BITS.choose_spec ⟨_, rfl⟩) (nomark _)) (pe_one (pe_cmpR op_lt (pe_callB call_abs (by rfl) L.z_abs (by decide +kernel) (pa_cons (pv 0) pa_nil)) (pe_op op_powX (pe_op op_pow pe_int pe_int) pe_int) (nomark _)))))), ?_⟩
    refine ⟨_, rfl, _, rfl, _, _, rfl, rfl, _, rfl, ite2 (fun h => ?_) fun _ => ?_⟩
    · rw [show decide (i.natAbs < big) = true from decide_eq_true (lt_of_bits (of_decide_eq_true h))] at q
      exact q
    · refine ⟨_, rfl, _, rfl, _, _, rfl, rfl, ⟨by decide, by decide, by decide⟩, _, _, rfl, rfl, ⟨by decide, by decide +kernel⟩, _, _, rfl, rfl, ?_⟩
      have e : decide ((if i < 0 then -i else i) < ((10 : Int) ^ (60 : Int).toNat) ^ (5 : Int).toNat) = decide (i.natAbs < big) := by
        have e1 : ((10 : Int) ^ (60 : Int).toNat) ^ (5 : Int).toNat = (big : Int) := by
          unfold big
          decide +kernel
        rw [e1, decide_eq_decide]
        split <;> omega
      show Q (.bl (decide ((if i < 0 then -i else i) < ((10 : Int) ^ (60 : Int).toNat) ^ (5 : Int).toNat))) H
      rw [e]
      exact q
abbrev cE (A : Ads) : Addr := A.ScriptError
def spChecked (A : Ads) : Sp := fun vs H Q E => ∃ i : Int, vs = [.int i] ∧ (i.natAbs < big → Q (.int i) H) ∧ (¬ i.natAbs < big → Err E (cE A) H "OverflowError" "the integer is too large")
theorem ok_checked_integer (L : Lib P K mg A) : FnOk P w K mg base (L2.CX P w) 3 L.checked_integer.f L.checked_integer.fd ["number"] (spChecked A) := by
  have G_is_bounded : FnOk P w K mg base CX0 1 L.is_bounded.f L.is_bounded.fd ["number"] spIsBounded := ok_is_bounded L
  refine L.checked_integer.F.okX sc_checked_integer (fun vs H Q E h => ?_) (fun cdv A' outer s H vs Q E hr h => ?_)
  · obtain ⟨i, rfl, _⟩ := h
    rfl
  · obtain ⟨i, rfl, q1, q2⟩ := h
    refine ⟨_, (pss_cons (ps_if (pt_not (pt_val (pe_call G_is_bounded (hr.mono (by omega)) (by rfl) L.is_bounded.g L.is_bounded.F.kp L.is_bounded.b .nil pass0 (pa_cons (pv 0) pa_nil))))
        (pss_one (ps_raise2 rfl L.x_ScriptError.T (L.x_ScriptError.F _ _) (hr.mono (by omega)) (takes_of rfl rfl rfl rfl) L.x_ScriptError.b (by rfl) L.x_ScriptError.g (pa_cons pe_str (pa_cons pe_str pa_nil))))
        pss_nil)
      (pss_one (ps_ret (pv 0)))), ?_⟩
    refine ⟨_, rfl, i, rfl, _, rfl, ?_⟩
    by_cases hb : i.natAbs < big
    · rw [show decide (i.natAbs < big) = true from decide_eq_true hb]
      exact iteF ⟨_, rfl, q1 hb⟩
    · rw [show decide (i.natAbs < big) = false from decide_eq_false hb]
      exact iteT (made2 (by decide +kernel) (by decide +kernel) (q2 hb))
/-! ### powers, roots -/
theorem pow_neg (n : Nat) : (-1 : Int) ^ n = if n % 2 = 1 then -1 else 1 := by
  induction n with
  | zero => rfl
  | succ n ih =>
    rw [Int.pow_succ, ih]
    by_cases h2 : n % 2 = 1
    · rw [if_pos h2, if_neg (by omega)]; rfl
    · rw [if_neg h2, if_pos (by omega)]; rfl
theorem pow_small {a : Int} (h : a = -1 ∨ a = 0 ∨ a = 1) (n : Nat) : a ^ n = if n = 0 then 1 else if a ≥ 0 ∨ n % 2 = 1 then a else -a := by
  by_cases h0 : n = 0
  · subst h0; rw [if_pos rfl, Int.pow_zero]
  · rw [if_neg h0]
    rcases h with rfl | rfl | rfl
    · rw [pow_neg]
      by_cases h2 : n % 2 = 1
      · rw [if_pos h2, if_pos (.inr h2)]
      · rw [if_neg h2, if_neg (fun z => z.elim (by decide) h2)]; rfl
    · rw [if_pos (.inl (by decide)), Int.zero_pow h0]
    · rw [if_pos (.inl (by decide)), Int.one_pow]
theorem pow_step {a : Int} (h : 2 ≤ a.natAbs) {i n : Nat} (hi : i ≤ n) (hb : ¬ (a ^ i).natAbs < big) : ¬ (a ^ n).natAbs < big := by
  rw [Int.natAbs_pow] at hb ⊢
  have := Nat.pow_le_pow_right (n := a.natAbs) (by omega) hi
  omega
def spSmall : Sp := fun vs H Q _ => ∃ (a e : Int), vs = [.int a, .int e] ∧ (a = -1 ∨ a = 0 ∨ a = 1) ∧ 0 ≤ e ∧ Q (.int (a ^ e.toNat)) H
theorem ok_small_power (L : Lib P K mg A) : FnOk P w K mg base CX0 1 L.small_power.f L.small_power.fd ["number", "exponent"] spSmall := by
  refine L.small_power.F.ok sc_small_power (fun vs H Q E h => ?_) (fun cdv A' outer s H vs Q E hr h => ?_)
  · obtain ⟨a, e, rfl, _⟩ := h
    rfl
  · obtain ⟨a, e, rfl, ha, he, q⟩ := h
    refine ⟨_, (pss_cons (ps_if (pt_cmpR op_eq (pv 1) pe_int (nomark _))
        (pss_one (ps_ret pe_int))
        pss_nil)
      (pss_one (ps_ret (pe_ifExp (PW.pt (pw_or (pt_cmpR op_ge (pv 0) pe_int (nomark _)) (pw_or1 (pt_cmpR op_eq (pe_op op_mod (pv 1) pe_int) pe_int (nomark _))))) (pv 0) (pe_un un_neg (pv 0)))))), ?_⟩
    rw [pow_small ha] at q
    refine ⟨_, rfl, rfl, _, rfl, ite2 (fun h => ?_) (fun h => ?_)⟩
    · have e0 := V.int.inj (of_decide_eq_true h)
      rw [if_pos (by omega)] at q
      exact q
    · have e0 : e ≠ 0 := fun z => nd h (congrArg V.int z)
      rw [if_neg (by omega)] at q
      refine ⟨_, rfl, _, _, rfl, rfl, _, rfl, ite2 (fun h => ?_) (fun h => ?_)⟩
      · have h := of_decide_eq_true h
        rw [if_pos (.inl h)] at q
        exact ⟨_, rfl, q⟩
      · have h := nd h
        refine ⟨_, rfl, _, _, rfl, rfl, (by show (0 : Int) < 2; decide), rfl, _, rfl, ite2 (fun h2 => ?_) (fun h2 => ?_)⟩
        · have h2 := V.int.inj (of_decide_eq_true h2)
          rw [if_pos (.inr (by omega))] at q
          exact ⟨_, rfl, q⟩
        · have h2 : ¬ e % 2 = 1 := fun z => nd h2 (congrArg V.int z)
          rw [if_neg (by omega)] at q
          exact ⟨_, rfl, _, rfl, q⟩
theorem in3 (a : Int) : inV (.int a) [.int (-1), .int 0, .int 1] = true ↔ (a = -1 ∨ a = 0 ∨ a = 1) := by
  simp only [inV, List.any_cons, List.any_nil, Bool.or_eq_true, Bool.or_false]
  show (decide ((-1 : Int) = a) = true ∨ decide ((0 : Int) = a) = true ∨ decide ((1 : Int) = a) = true) ↔ _
  simp only [decide_eq_true_eq]
  omega
def spRaised (A : Ads) : Sp := fun vs H Q E => ∃ (a e : Int), vs = [.int a, .int e] ∧ a.natAbs < big ∧ e ≤ 100000 ∧ (e < 0 → Err E (cE A) H "ValueError" "the exponent is negative") ∧ (0 ≤ e → ∀ H', Same H H' → ((a ^ e.toNat).natAbs < big → Q (.int (a ^ e.toNat)) H') ∧ (¬ (a ^ e.toNat).natAbs < big → Err E (cE A) H' "OverflowError" "the integer is too large"))
theorem ok_raised (L : Lib P K mg A) : FnOk P w K mg base (L2.CX P w) 4 L.raised.f L.raised.fd ["number", "exponent"] (spRaised A) := by
  have G_checked_integer : FnOk P w K mg base (L2.CX P w) 3 L.checked_integer.f L.checked_integer.fd ["number"] (spChecked A) := ok_checked_integer L
  have G_small_power : FnOk P w K mg base CX0 1 L.small_power.f L.small_power.fd ["number", "exponent"] spSmall := ok_small_power L
  refine L.raised.F.okX sc_raised (fun vs H Q E h => ?_) (fun cdv A' outer s H vs Q E hr h => ?_)
  · obtain ⟨a, e, rfl, _⟩ := h
    rfl
  · obtain ⟨a, e, rfl, ha, he, q1, q2⟩ := h
    refine ⟨_, (pss_cons (ps_if (pt_cmpR op_lt (pv 1) pe_int (nomark _))
        (pss_one (ps_raise2 rfl L.x_ScriptError.T (L.x_ScriptError.F _ _) (hr.mono (by omega)) (takes_of rfl rfl rfl rfl) L.x_ScriptError.b (by rfl) L.x_ScriptError.g (pa_cons pe_str (pa_cons pe_str pa_nil))))
        pss_nil)
      (pss_cons (ps_if (pt_cmpR op_in_seq (pv 0) (pe_tup (pa_cons (pe_un un_neg pe_int) (pa_cons pe_int (pa_cons pe_int pa_nil)))) (by rfl))
        (pss_one (ps_ret (pe_call G_small_power (hr.mono (by omega)) (by rfl) L.small_power.g L.small_power.F.kp L.small_power.b .nil pass0 (pa_cons (pv 0) (pa_cons (pv 1) pa_nil)))))
        pss_nil)
      (pss_cons (ps_set (i := 2) sc_raised.nd rfl (.inl rfl) pe_int)
      (pss_cons (ps_for (passes_of rfl) rfl (pi_range1 (by rfl) L.z_range (pa_cons (pv 1) pa_nil)) (pg_name (i := 3) sc_raised.nd rfl (.inl rfl))
        (pss_one (ps_set (i := 2) sc_raised.nd rfl (.inl rfl) (pe_callS G_checked_integer (hr.mono (by omega)) (by rfl) L.checked_integer.g L.checked_integer.F.kp L.checked_integer.b (fun σ => passAt (takes_of rfl rfl rfl rfl) σ) (pa_cons (pe_op op_mulW (pv 2) (pv 0)) pa_nil)))))
      (pss_one (ps_ret (pv 2))))))), ?_⟩
    refine ⟨_, rfl, _, _, rfl, rfl, _, rfl, ?_⟩
    by_cases e0 : e < 0
    · rw [decide_eq_true e0]
      exact iteT (made2 (by decide +kernel) (by decide +kernel) (q1 e0))
    · rw [decide_eq_false e0]
      refine iteF ?_
      refine ⟨_, rfl, 1, rfl, (by show 3 ≤ sizeLine; decide), fun t ht => ?_⟩
      have s1 : Same H (upd H t (.tup [.int (-1), .int 0, .int 1])) := same_upd ht
      have ht2 : upd H t (.tup [.int (-1), .int 0, .int 1]) t = some (.tup [.int (-1), .int 0, .int 1]) := upd_same
      generalize upd H t (.tup [.int (-1), .int 0, .int 1]) = H1 at s1 ht2
      obtain ⟨q3, q4⟩ := q2 (by omega) H1 s1
      refine ⟨t, _, rfl, .inr (.inl (.inl ht2)), rfl, rfl, _, rfl, ite2 (fun h => ?_) (fun h => ?_)⟩
      · have h3 : a = -1 ∨ a = 0 ∨ a = 1 := (in3 a).mp h
        refine ⟨_, rfl, _, rfl, a, e, rfl, h3, by omega, q3 ?_⟩
        have b1 : (1 : Nat) < big := small_big (by decide)
        rw [pow_small h3]
        split
        · exact b1
        · split <;> omega
      · have h3 : 2 ≤ a.natAbs := by
          have h3 : ¬ (a = -1 ∨ a = 0 ∨ a = 1) := fun z => h ((in3 a).mpr z)
          omega
        refine ⟨_, rfl, e, rfl, by omega, by omega, for_range (n := e.toNat) (fun i σ H' => ∃ y : Option V, σ = [some (.int a), some (.int e), some (.int (a ^ i)), y] ∧ H' = H1 ∧ (a ^ i).natAbs < big) ⟨none, by rw [Int.pow_zero]; rfl, rfl, ?_⟩ ?_ ?_⟩
        · rw [Int.pow_zero]
          exact small_big (by decide)
        · rintro i σ H' hi ⟨y, rfl, rfl, hb⟩
          refine ⟨_, rfl, _, rfl, _, _, rfl, rfl, wide_mul (Nat.lt_trans hb big_bits) (Nat.lt_trans ha big_bits) (by decide) (by decide) (by decide), a ^ i * a, rfl, fun hb2 => ?_, fun hb2 => ?_⟩
          · refine ⟨some (.int (0 + i)), ?_, rfl, ?_⟩
            · rw [Int.pow_succ]; rfl
            · rw [Int.pow_succ]; exact hb2
          · refine q4 (pow_step h3 (i := i + 1) (by omega) ?_)
            rw [Int.pow_succ]
            exact hb2
        · rintro σ H' ⟨y, rfl, rfl, hb⟩
          exact ⟨_, rfl, q3 hb⟩
def spRoot (A : Ads) : Sp := fun vs H Q E => ∃ (a : Int), vs = [.int a] ∧ a.natAbs < big ∧ (a < 0 → Err E (cE A) H "ValueError" "the integer is negative") ∧ (0 ≤ a → Q (.int ((sqr a.toNat : Nat) : Int)) H)
theorem ok_root_of (L : Lib P K mg A) (Z : Mth mg) : FnOk P w K mg base (L2.CX P w) 3 L.root_of.f L.root_of.fd ["number"] (spRoot A) := by
  refine L.root_of.F.okX sc_root_of (fun vs H Q E h => ?_) (fun cdv A' outer s H vs Q E hr h => ?_)
  · obtain ⟨a, rfl, _⟩ := h
    rfl
  · obtain ⟨a, rfl, ha, q1, q2⟩ := h
    refine ⟨_, (pss_cons (ps_if (pt_cmpR op_lt (pv 0) pe_int (nomark _))
        (pss_one (ps_raise2 rfl L.x_ScriptError.T (L.x_ScriptError.F _ _) (hr.mono (by omega)) (takes_of rfl rfl rfl rfl) L.x_ScriptError.b (by rfl) L.x_ScriptError.g (pa_cons pe_str (pa_cons pe_str pa_nil))))
        pss_nil)
      (pss_one (ps_ret (pe_callBfun cr_isqrt (by rfl) Z.sq (pa_cons (pv 0) pa_nil))))), ?_⟩
    refine ⟨_, rfl, _, _, rfl, rfl, _, rfl, ?_⟩
    by_cases e0 : a < 0
    · rw [decide_eq_true e0]
      exact iteT (made2 (by decide +kernel) (by decide +kernel) (q1 e0))
    · rw [decide_eq_false e0]
      exact iteF ⟨_, rfl, a, rfl, by omega, Nat.lt_trans ha big_bits, q2 (by omega)⟩
def spBase (A : Ads) : Sp := fun vs H Q E => ∃ (b : Int), vs = [.int b] ∧ (2 ≤ b ∧ b ≤ 36 → Q .non H) ∧ (¬ (2 ≤ b ∧ b ≤ 36) → Err E (cE A) H "ValueError" "no such base")
theorem ok_check_base (L : Lib P K mg A) : FnOk P w K mg base (L2.CX P w) 3 L.check_base.f L.check_base.fd ["base"] (spBase A) := by
  refine L.check_base.F.okX sc_check_base (fun vs H Q E h => ?_) (fun cdv A' outer s H vs Q E hr h => ?_)
  · obtain ⟨b, rfl, _⟩ := h
    rfl
  · obtain ⟨b, rfl, q1, q2⟩ := h
    refine ⟨_, (pss_one (ps_if (pt_not (pt_chain op_le op_le (pe_glob (v := .int 2) (by rfl) L.v_LEAST_BASE.choose_spec ⟨_, rfl⟩) (pv 0) (pe_glob (v := .int 36) (by rfl) L.v_MOST_BASE.choose_spec ⟨_, rfl⟩)))
        (pss_one (ps_raise2 rfl L.x_ScriptError.T (L.x_ScriptError.F _ _) (hr.mono (by omega)) (takes_of rfl rfl rfl rfl) L.x_ScriptError.b (by rfl) L.x_ScriptError.g (pa_cons pe_str (pa_cons pe_str pa_nil))))
        pss_nil)), ?_⟩
    refine ⟨_, rfl, _, _, rfl, rfl, _, rfl, ite2 (fun h => ⟨_, _, rfl, rfl, _, rfl, ?_⟩) (fun h => ⟨_, rfl, ?_⟩)⟩
    · have h := of_decide_eq_true h
      by_cases h2 : b ≤ 36
      · rw [decide_eq_true h2]
        exact iteF (q1 ⟨h, h2⟩)
      · rw [decide_eq_false h2]
        exact iteT (made2 (by decide +kernel) (by decide +kernel) (q2 fun z => h2 z.2))
    · exact iteT (made2 (by decide +kernel) (by decide +kernel) (q2 fun z => nd h z.1))
end
end My
namespace My
open PySem L2 SX XT XS XE XD XL
open C8 (pss_cut tCut cutS_slice pe_gc)
abbrev DG : Str := "0123456789abcdefghijklmnopqrstuvwxyz"
abbrev CP : Str := "ABCDEFGHIJKLMNOPQRSTUVWXYZ"
def DGL : List Nat := [48, 49, 50, 51, 52, 53, 54, 55, 56, 57, 97, 98, 99, 100, 101, 102, 103, 104, 105, 106, 107, 108, 109, 110, 111, 112, 113, 114, 115, 116, 117, 118, 119, 120, 121, 122]
theorem DG_list : DG.cps.toList = DGL := by decide +kernel
def dg (d : Nat) : Nat := DGL.getD d 0
theorem dg_at {d : Nat} (h : d < 36) : DGL[d]? = some (dg d) := by
  unfold dg
  rw [List.getD_eq_getElem?_getD, List.getElem?_eq_getElem (show d < DGL.length from h)]
  rfl
/-- the number of a digit -/
def pl (c : Nat) : Int := if Txt.find CP (S [c]) < 0 then Txt.find DG (S [c]) else Txt.find CP (S [c]) + 10
theorem pl_dg : ∀ d, d < 36 → pl (dg d) = d := by decide +kernel
theorem pl_up : ∀ d, d < 36 → pl (PyProof.Rows.up1 (dg d)) = d := by decide +kernel
theorem sw_minus (l : List Nat) : Txt.startswith (S l) "-" = decide (l.head? = some 45) := by
  unfold Txt.startswith
  rw [show ("-" : Str) = S [45] by decide +kernel, S_len, S_len]
  cases l with
  | nil => simp
  | cons c r =>
    have e : Builtin.Str.subAt (S (c :: r)) (S [45]) 0 = decide (c = 45) := by
      unfold Builtin.Str.subAt
      rw [S_len]
      by_cases h : c = 45
      · subst h; simp
      · simp [h]
    rw [e]
    simp
theorem cut_from (l : List Nat) (i : Nat) : cutS (S l) (some (i : Int)) none = S (l.drop i) := by
  rw [cutS_slice, slice_from (by omega), Int.toNat_natCast]
theorem join_signs (v : List Nat) : Txt.join (S []) (v.map fun c => S [c]) = S v := by
  have e : (v.map fun c => S [c]) = (v.map fun c => [c]).map S := by rw [List.map_map]; rfl
  rw [e, join_S]
  congr 1
  induction v with
  | nil => rfl
  | cons c v ih =>
    cases v with
    | nil => rfl
    | cons d v =>
      show [c] ++ [] ++ TL.joinL [] ((d :: v).map fun c => [c]) = c :: d :: v
      rw [ih (by rw [List.map_map]; rfl)]
      rfl
/-! ### digits -/
def dgs (b n : Nat) : List Nat := if h : 2 ≤ b ∧ n / b ≠ 0 then n % b :: dgs b (n / b) else [n % b]
termination_by n
decreasing_by
  refine Nat.div_lt_self ?_ (by omega)
  rcases Nat.eq_zero_or_pos n with z | z
  · rw [z, Nat.zero_div] at h
    exact absurd rfl h.2
  · exact z
theorem dgs_ne (b n : Nat) : dgs b n ≠ [] := by
  unfold dgs
  split <;> simp
theorem dgs_step {b n : Nat} (hb : 2 ≤ b) : dgs b n = n % b :: (if n / b = 0 then [] else dgs b (n / b)) := by
  rw [dgs]
  by_cases h : n / b = 0
  · rw [dif_neg (by omega), if_pos h]
  · rw [dif_pos ⟨hb, h⟩, if_neg h]
theorem dgs_lt {b : Nat} (hb : 2 ≤ b) : ∀ (n : Nat), ∀ d ∈ dgs b n, d < b := by
  intro n
  induction n using Nat.strongRecOn with
  | ind n ih =>
    intro d hd
    rw [dgs_step hb] at hd
    rcases List.mem_cons.mp hd with e | hd
    · rw [e]; exact Nat.mod_lt _ (by omega)
    · by_cases h : n / b = 0
      · rw [if_pos h] at hd; cases hd
      · rw [if_neg h] at hd
        refine ih _ (Nat.div_lt_self ?_ (by omega)) d hd
        rcases Nat.eq_zero_or_pos n with z | z
        · subst z; simp at h
        · exact z
theorem dgs_len {b : Nat} (hb : 2 ≤ b) : ∀ (k n : Nat), n < 2 ^ k → (dgs b n).length ≤ k + 1
  | 0, n, h => by
    rw [dgs_step hb, if_pos (by rw [show n = 0 by simpa using h]; simp)]
    simp
  | k + 1, n, h => by
    rw [dgs_step hb]
    by_cases z : n / b = 0
    · rw [if_pos z]; simp
    · rw [if_neg z, List.length_cons]
      have h1 : n / b < 2 ^ k := by
        refine Nat.div_lt_of_lt_mul (Nat.lt_of_lt_of_le h ?_)
        rw [Nat.pow_succ, Nat.mul_comm]
        exact Nat.mul_le_mul_right _ hb
      have := dgs_len hb k _ h1
      omega
/-- the value of digits, the greatest first -/
def vl (b : Int) (l : List Int) : Int := l.foldl (fun n d => n * b + d) 0
theorem vl_app (b : Int) (l : List Int) (d : Int) : vl b (l ++ [d]) = vl b l * b + d := by
  unfold vl
  rw [List.foldl_append]
  rfl
theorem vl_dgs {b : Nat} (hb : 2 ≤ b) : ∀ (n : Nat), vl b ((dgs b n).reverse.map fun d : Nat => (d : Int)) = n := by
  intro n
  induction n using Nat.strongRecOn with
  | ind n ih =>
    rw [dgs_step hb, List.reverse_cons, List.map_append, List.map_singleton, vl_app]
    by_cases h : n / b = 0
    · rw [if_pos h, List.reverse_nil, List.map_nil]
      show (0 : Int) * b + ((n % b : Nat) : Int) = n
      have := Nat.div_add_mod n b
      rw [h] at this
      simp at this
      rw [Int.zero_mul, Int.zero_add, this]
    · have n0 : 0 < n := by
        rcases Nat.eq_zero_or_pos n with z | z
        · subst z; simp at h
        · exact z
      rw [if_neg h, ih _ (Nat.div_lt_self n0 (by omega))]
      have := Nat.div_add_mod n b
      have e : ((n / b : Nat) : Int) * (b : Int) = ((b * (n / b) : Nat) : Int) := by rw [Int.natCast_mul, Int.mul_comm]
      rw [e]
      omega
def wrU (b n : Nat) : List Nat := ((dgs b n).map dg).reverse
def wrS (b : Nat) (n : Int) : List Nat := if n < 0 then 45 :: wrU b n.natAbs else wrU b n.natAbs
theorem wrU_len {b n : Nat} (hb : 2 ≤ b) (h : n < big) : (wrU b n).length ≤ 998 := by
  unfold wrU
  rw [List.length_reverse, List.length_map]
  exact dgs_len hb 997 n (Nat.lt_trans h big_bits)
theorem wrS_len {b : Nat} {n : Int} (hb : 2 ≤ b) (h : n.natAbs < big) : (wrS b n).length ≤ 999 := by
  have := wrU_len hb h
  unfold wrS
  split
  · rw [List.length_cons]; omega
  · omega
section
variable {P : Program} {w : World} {K : PySem.W.Frag} {mg : Str → Option Value} {base : Heap} {A : Ads}
def spPlace : Sp := fun vs H Q _ => ∃ c : Nat, vs = [.str (S [c])] ∧ Q (.int (pl c)) H
theorem ok_place_of_digit (L : Lib P K mg A) : FnOk P w K mg base CX0 1 L.place_of_digit.f L.place_of_digit.fd ["sign"] spPlace := by
  refine L.place_of_digit.F.ok sc_place_of_digit (fun vs H Q E h => ?_) (fun cdv A' outer s H vs Q E hr h => ?_)
  · obtain ⟨c, rfl, _⟩ := h
    rfl
  · obtain ⟨c, rfl, q⟩ := h
    refine ⟨_, (pss_cons (ps_set (i := 1) sc_place_of_digit.nd rfl (.inl rfl) (pe_m1 PySem.F.slot_str_find PySem.F.type_str_find mt_find (pe_glob (v := .str "ABCDEFGHIJKLMNOPQRSTUVWXYZ") (by rfl) L.v_CAPITALS.choose_spec ⟨_, rfl⟩) (pv 0)))
      (pss_one (ps_ret (pe_ifExp (pt_cmpR op_lt (pv 1) pe_int (nomark _)) (pe_m1 PySem.F.slot_str_find PySem.F.type_str_find mt_find (pe_glob (v := .str "0123456789abcdefghijklmnopqrstuvwxyz") (by rfl) L.v_DIGITS.choose_spec ⟨_, rfl⟩) (pv 0)) (pe_op op_add (pv 1) pe_int))))), ?_⟩
    unfold pl at q
    refine ⟨⟨_, rfl⟩, _, rfl, _, _, rfl, rfl, _, rfl, _, _, rfl, rfl, _, rfl, ?_⟩
    by_cases h : Txt.find CP (S [c]) < 0
    · rw [if_pos h] at q
      rw [decide_eq_true h]
      exact iteT ⟨⟨_, rfl⟩, _, rfl, _, _, rfl, rfl, q⟩
    · rw [if_neg h] at q
      rw [decide_eq_false h]
      exact iteF ⟨_, rfl, _, _, rfl, rfl, q⟩
theorem lenD {c N r : Nat} {ds : List Nat} (hb : 2 ≤ c) (hn : N < big) (hd1 : ds ≠ [] → ds ++ (if r = 0 then [] else dgs c r) = dgs c N) : ds.length ≤ 998 := by
  by_cases h : ds = []
  · rw [h]; exact Nat.zero_le _
  · have e := congrArg List.length (hd1 h)
    rw [List.length_append] at e
    have := dgs_len hb 997 N (Nat.lt_trans hn big_bits)
    omega
theorem stepM {c r : Nat} {ds : List Nat} (hb : 2 ≤ c) (hgo : 0 < r ∨ ds = []) : r / c + (if ds ++ [r % c] = [] then 1 else 0) < r + (if ds = [] then 1 else 0) := by
  rw [if_neg (by simp)]
  by_cases h : ds = []
  · rw [if_pos h]
    have := Nat.div_le_self r c
    omega
  · rw [if_neg h]
    have := Nat.div_lt_self (n := r) (k := c) (hgo.resolve_right h) (by omega)
    omega
theorem stepD {c N r : Nat} {ds : List Nat} (hb : 2 ≤ c) (hgo : 0 < r ∨ ds = []) (hd0 : ds = [] → r = N) (hd1 : ds ≠ [] → ds ++ (if r = 0 then [] else dgs c r) = dgs c N) : (ds ++ [r % c]) ++ (if r / c = 0 then [] else dgs c (r / c)) = dgs c N := by
  by_cases h : ds = []
  · subst h
    rw [← hd0 rfl]
    exact (dgs_step hb).symm
  · have e := hd1 h
    rw [if_neg (Nat.ne_of_gt (hgo.resolve_right h)), dgs_step hb] at e
    rw [List.append_assoc]
    exact e
theorem sum_ones : ∀ l : List Nat, (l.map ((fun x : Str => x.length) ∘ fun k => S [k])).sum = l.length
  | [] => rfl
  | _ :: l => by
    rw [List.map_cons, List.sum_cons, sum_ones l, List.length_cons]
    show 1 + l.length = _
    omega
def spWritten (A : Ads) : Sp := fun vs H Q E => ∃ (n b : Int), vs = [.int n, .int b] ∧ n.natAbs < big ∧ (¬ (2 ≤ b ∧ b ≤ 36) → Err E (cE A) H "ValueError" "no such base") ∧ (2 ≤ b ∧ b ≤ 36 → ∀ H', Same H H' → Q (.str (S (wrS b.toNat n))) H')
theorem ok_written_in (L : Lib P K mg A) : FnOk P w K mg base (L2.CX P w) 4 L.written_in.f L.written_in.fd ["number", "base"] (spWritten A) := by
  have G_check_base : FnOk P w K mg base (L2.CX P w) 3 L.check_base.f L.check_base.fd ["base"] (spBase A) := ok_check_base L
  refine L.written_in.F.okX sc_written_in (fun vs H Q E h => ?_) (fun cdv A' outer s H vs Q E hr h => ?_)
  · obtain ⟨n, b, rfl, _⟩ := h
    rfl
  · obtain ⟨n, b, rfl, hn, q1, q2⟩ := h
    refine ⟨_, (pss_cons (ps_expr (pe_callS G_check_base (hr.mono (by omega)) (by rfl) L.check_base.g L.check_base.F.kp L.check_base.b (fun σ => passAt (takes_of rfl rfl rfl rfl) σ) (pa_cons (pv 1) pa_nil)))
      (pss_cons (ps_set (i := 2) sc_written_in.nd rfl (.inl rfl) (pe_lst pa_nil))
      (pss_cons (ps_set (i := 3) sc_written_in.nd rfl (.inl rfl) (pe_callB call_abs (by rfl) L.z_abs (by decide +kernel) (pa_cons (pv 0) pa_nil)))
      (pss_cons (ps_while (passes_of rfl) (PW.pt (pw_or (pt_cmpR op_gt (pv 3) pe_int (nomark _)) (pw_or1 (pt_not (pt_truth (pv 2) (by intro _; rfl))))))
        (pss_cons (ps_expr (pe_bm PySem.F.plainAttrs_list PySem.F.slot_list_append PySem.F.type_list_append mt_append (pv 2) (pa_cons (pe_ix ix_str (pe_glob (v := .str "0123456789abcdefghijklmnopqrstuvwxyz") (by rfl) L.v_DIGITS.choose_spec ⟨_, rfl⟩) (pe_op op_mod (pv 3) (pv 1)) (fun _ _ => rfl)) pa_nil)))
      (pss_one (ps_set (i := 3) sc_written_in.nd rfl (.inl rfl) (pe_op op_fdivW (pv 3) (pv 1))))))
      (pss_cut (ps_if (pt_cmpR op_lt (pv 0) pe_int (nomark _))
        (pss_one (ps_expr (pe_bm PySem.F.plainAttrs_list PySem.F.slot_list_append PySem.F.type_list_append mt_append (pv 2) (pa_cons pe_str pa_nil))))
        pss_nil)
      (pss_one (ps_ret (pe_back (pe_join pe_str (pv 2)) (pe_un un_neg pe_int))))))))), ?_⟩
    refine ⟨_, rfl, b, rfl, fun hb => ?_, q1⟩
    have q := q2 hb
    obtain ⟨c, hc⟩ : ∃ c : Nat, b = (c : Int) := ⟨b.toNat, by omega⟩
    subst hc
    refine ⟨Nat.zero_le _, fun p hp => ?_⟩
    have s1 : Same H (upd H p (.lst [])) := same_upd hp
    refine ⟨_, rfl, _, rfl, ?_⟩
    let W : Nat → List (Option V) → Hp → Prop := fun m σ' H' => ∃ (ds : List Nat) (r : Nat), m = r + (if ds = [] then 1 else 0) ∧ σ' = [some (.int n), some (.int c), some (.ref p), some (.int r)] ∧ Same H H' ∧ H' p = some (.lst (ds.map fun d => V.str (S [dg d]))) ∧ r ≤ n.natAbs ∧ (ds = [] → r = n.natAbs) ∧ (ds ≠ [] → ds ++ (if r = 0 then [] else dgs c r) = dgs c n.natAbs)
    refine ⟨W, ⟨_, [], n.natAbs, rfl, ?_, s1, upd_same, Nat.le_refl _, fun _ => rfl, fun h => (h rfl).elim⟩, ?_⟩
    · show [some (V.int n), some (V.int c), some (V.ref p), some (V.int (if n < 0 then -n else n))] = _
      rw [show (if n < 0 then -n else n) = ((n.natAbs : Nat) : Int) by split <;> omega]
    · rintro m σ' H' ⟨ds, r, rfl, rfl, s2, hp2, hr, hd0, hd1⟩
      refine ⟨_, rfl, _, _, rfl, rfl, _, rfl, ?_⟩
      by_cases h : (0 : Int) < (r : Nat)
      · rw [decide_eq_true h]
        refine iteT (iteT ?_)
        have hgo : 0 < r ∨ ds = [] := .inl (by omega)
        refine ⟨fun σ' H' => ∃ m', m' < r + (if ds = [] then 1 else 0) ∧ W m' σ' H', fun _ _ h => h, ?_⟩
        have hc0 : (0 : Int) < (c : Nat) := by omega
        have hd36 : r % c < 36 := Nat.lt_of_lt_of_le (Nat.mod_lt r (by omega)) (by omega)
        refine ⟨_, rfl, .inl ⟨rfl, _, SqL.of hp2⟩, _, rfl, _, rfl, _, _, rfl, rfl, hc0, _, _, dg (r % c), rfl, rfl, (by decide +kernel), ?_, p, _, _, rfl, rfl, hp2, ?_, ?_⟩
        · rw [DG_list, ← Int.natCast_emod]
          exact atI_nat (dg_at hd36)
        · rw [List.length_map]
          exact Nat.lt_of_le_of_lt (lenD (by omega) hn hd1) (by decide)
        · refine ⟨_, rfl, _, rfl, _, _, rfl, rfl, wide_div hc0 (b := 10) (by omega) (by decide) (by decide), r / c + (if ds ++ [r % c] = [] then 1 else 0), ?_, ds ++ [r % c], r / c, rfl, ?_, ?_, ?_, ?_, ?_, ?_⟩
          · exact stepM (by omega) hgo
          · rw [Int.natCast_ediv]; rfl
          · exact fun b o e => by rw [upd_ne (fun z => by rw [z, hp] at e; cases e)]; exact s2 b o e
          · rw [List.map_append]; exact upd_same
          · exact Nat.le_trans (Nat.div_le_self r c) hr
          · exact fun z => absurd z (by simp)
          · exact fun _ => stepD (by omega) hgo hd0 hd1
      · rw [decide_eq_false h]
        refine iteF ⟨_, rfl, !ds.isEmpty, .inl ⟨_, SqL.of hp2, by cases ds <;> rfl⟩, ?_⟩
        by_cases hd : ds = []
        · have hgo : 0 < r ∨ ds = [] := .inr hd
          rw [show (!ds.isEmpty) = false by rw [hd]; rfl]
          refine iteT ?_
          refine ⟨fun σ' H' => ∃ m', m' < r + (if ds = [] then 1 else 0) ∧ W m' σ' H', fun _ _ h => h, ?_⟩
          have hc0 : (0 : Int) < (c : Nat) := by omega
          have hd36 : r % c < 36 := Nat.lt_of_lt_of_le (Nat.mod_lt r (by omega)) (by omega)
          refine ⟨_, rfl, .inl ⟨rfl, _, SqL.of hp2⟩, _, rfl, _, rfl, _, _, rfl, rfl, hc0, _, _, dg (r % c), rfl, rfl, (by decide +kernel), ?_, p, _, _, rfl, rfl, hp2, ?_, ?_⟩
          · rw [DG_list, ← Int.natCast_emod]
            exact atI_nat (dg_at hd36)
          · rw [List.length_map]
            exact Nat.lt_of_le_of_lt (lenD (by omega) hn hd1) (by decide)
          · refine ⟨_, rfl, _, rfl, _, _, rfl, rfl, wide_div hc0 (b := 10) (by omega) (by decide) (by decide), r / c + (if ds ++ [r % c] = [] then 1 else 0), ?_, ds ++ [r % c], r / c, rfl, ?_, ?_, ?_, ?_, ?_, ?_⟩
            · exact stepM (by omega) hgo
            · rw [Int.natCast_ediv]; rfl
            · exact fun b o e => by rw [upd_ne (fun z => by rw [z, hp] at e; cases e)]; exact s2 b o e
            · rw [List.map_append]; exact upd_same
            · exact Nat.le_trans (Nat.div_le_self r c) hr
            · exact fun z => absurd z (by simp)
            · exact fun _ => stepD (by omega) hgo hd0 hd1
        · rw [show (!ds.isEmpty) = true by cases ds; exact absurd rfl hd; rfl]
          refine iteF ?_
          have r0 : r = 0 := by omega
          subst r0
          have e := hd1 hd
          rw [if_pos rfl, List.append_nil] at e
          refine ⟨fun σ' H2 => σ' = [some (.int n), some (.int c), some (.ref p), some (.int (0 : Nat))] ∧ Same H H2 ∧ H2 p = some (.lst (((wrS c n).reverse.map fun k => S [k]).map V.str)), ?_, ?_⟩
          · have hl : HO.lst (ds.map fun d => V.str (S [dg d])) = HO.lst (((wrU c n.natAbs).reverse.map fun k => S [k]).map V.str) := by
              unfold wrU
              rw [List.reverse_reverse, ← e, List.map_map, List.map_map]
              rfl
            rw [hl] at hp2
            unfold wrS
            refine ⟨_, rfl, _, _, rfl, rfl, _, rfl, ite2 (fun h => ?_) (fun h => ?_)⟩
            · rw [if_pos (of_decide_eq_true h)]
              refine ⟨_, rfl, .inl ⟨rfl, _, SqL.of hp2⟩, p, _, _, rfl, rfl, hp2, ?_, rfl, fun b o e => ?_, ?_⟩
              · rw [List.length_map, List.length_map, List.length_reverse]
                exact Nat.lt_of_le_of_lt (wrU_len (by omega) hn) (by decide)
              · rw [upd_ne (fun z => by rw [z, hp] at e; cases e)]
                exact s2 b o e
              · rw [List.reverse_cons, List.map_append, List.map_append]
                exact upd_same
            · rw [if_neg (nd h)]
              exact ⟨rfl, s2, hp2⟩
          · rintro σ' H2 ⟨rfl, s3, hp3⟩
            have wl := wrS_len (n := n) (b := c) (by omega) hn
            refine ⟨⟨_, rfl⟩, _, rfl, "", p, _, rfl, rfl, .inl (SqL.of hp3), ?_, ⟨1, rfl, _, rfl, rfl, ?_, ?_⟩⟩
            · rw [show (("" : Str)).length = 0 by decide +kernel, List.map_map, sum_ones]
              rw [List.length_map, List.length_reverse]
              omega
            · rw [show ("" : Str) = S [] by decide +kernel, join_signs, S_len, List.length_reverse]
              exact Nat.le_trans wl (by decide)
            · rw [show ("" : Str) = S [] by decide +kernel, join_signs]
              show Q (.str ⟨(S (wrS c n).reverse).cps.toList.reverse.toArray⟩) H2
              rw [show (S (wrS c n).reverse).cps.toList = (wrS c n).reverse from rfl, List.reverse_reverse]
              exact q H2 s3
end
end My
namespace My
open PySem L2 SX XT XS XE XD XL
open C8 (pss_cut tCut cutS_slice pe_gc)
def bdy (l : List Nat) : List Nat := if l.head? = some 45 then l.drop 1 else l
def good (b : Int) (l : List Nat) : Prop := bdy l ≠ [] ∧ ∀ c ∈ bdy l, 0 ≤ pl c ∧ pl c < b
def num (b : Int) (l : List Nat) : Int := if l.head? = some 45 then - vl b ((bdy l).map pl) else vl b ((bdy l).map pl)
theorem bdy_len (l : List Nat) : (bdy l).length ≤ l.length := by
  unfold bdy
  split
  · rw [List.length_drop]; omega
  · exact Nat.le_refl _
theorem vl_lt {b : Int} (hb : 2 ≤ b ∧ b ≤ 36) : ∀ (k : Nat) (l : List Int), l.length = k → (∀ d ∈ l, 0 ≤ d ∧ d < b) → 0 ≤ vl b l ∧ (vl b l).natAbs < 2 ^ (6 * k + 1)
  | 0, l, h, _ => by
    rw [List.length_eq_zero_iff.mp h]
    exact ⟨Int.le_refl _, by show (0 : Nat) < _; decide⟩
  | k + 1, l, h, hd => by
    obtain ⟨r, d, rfl⟩ : ∃ r d, l = r ++ [d] := ⟨l.dropLast, l.getLast (by intro z; rw [z] at h; cases h), (List.dropLast_concat_getLast _).symm⟩
    rw [List.length_append, List.length_singleton] at h
    obtain ⟨h0, h1⟩ := vl_lt hb k r (by omega) fun x hx => hd x (List.mem_append_left _ hx)
    obtain ⟨d0, d1⟩ := hd d (List.mem_append_right _ (List.mem_singleton.mpr rfl))
    rw [vl_app]
    have e1 : 0 ≤ vl b r * b := Int.mul_nonneg h0 (by omega)
    have e2 : vl b r * b ≤ vl b r * 36 := Int.mul_le_mul_of_nonneg_left hb.2 h0
    refine ⟨by omega, ?_⟩
    rw [show 6 * (k + 1) + 1 = 6 * k + 1 + 6 by omega, Nat.pow_add]
    omega
section
variable {P : Program} {w : World} {K : PySem.W.Frag} {mg : Str → Option Value} {base : Heap} {A : Ads}
def okc (b : Int) (c : Nat) : Bool := decide (0 ≤ pl c) && decide (pl c < b)
theorem all_ok (b : Int) (l : List Nat) : (l.map (okc b)).all id = true ↔ ∀ c ∈ l, 0 ≤ pl c ∧ pl c < b := by
  rw [List.all_map, List.all_eq_true]
  constructor
  · intro h c hc
    have := h c hc
    simpa [okc] using this
  · intro h c hc
    have := h c hc
    simpa [okc] using this
theorem take_map {α β : Type} {f : α → β} {l : List α} {i : Nat} {c : α} (h : l[i]? = some c) : (l.take (i + 1)).map f = (l.take i).map f ++ [f c] := by
  rw [List.take_succ, h, List.map_append]
  rfl
def spRead (A : Ads) : Sp := fun vs H Q E => ∃ (l : List Nat) (b : Int), vs = [.str (S l), .int b] ∧ l.length ≤ 2000 ∧ (¬ (2 ≤ b ∧ b ≤ 36) → Err E (cE A) H "ValueError" "no such base") ∧ (2 ≤ b ∧ b ≤ 36 → ∀ H', Same H H' →
  (¬ good b l → Err E (cE A) H' "ValueError" "not an integer") ∧ (good b l → (num b l).natAbs < big → Q (.int (num b l)) H') ∧ (good b l → ¬ (num b l).natAbs < big → Err E (cE A) H' "OverflowError" "the integer is too large"))
theorem ok_read_in (L : Lib P K mg A) : FnOk P w K mg base (L2.CX P w) 4 L.read_in.f L.read_in.fd ["text", "base"] (spRead A) := by
  have G_check_base : FnOk P w K mg base (L2.CX P w) 3 L.check_base.f L.check_base.fd ["base"] (spBase A) := ok_check_base L
  have G_checked_integer : FnOk P w K mg base (L2.CX P w) 3 L.checked_integer.f L.checked_integer.fd ["number"] (spChecked A) := ok_checked_integer L
  have G_place_of_digit : FnOk P w K mg base CX0 1 L.place_of_digit.f L.place_of_digit.fd ["sign"] spPlace := ok_place_of_digit L
  refine L.read_in.F.okX sc_read_in (fun vs H Q E h => ?_) (fun cdv A' outer s H vs Q E hr h => ?_)
  · obtain ⟨l, b, rfl, _⟩ := h
    rfl
  · obtain ⟨l, b, rfl, hl, q1, q2⟩ := h
    refine ⟨_, (pss_cons (ps_expr (pe_callS G_check_base (hr.mono (by omega)) (by rfl) L.check_base.g L.check_base.F.kp L.check_base.b (fun σ => passAt (takes_of rfl rfl rfl rfl) σ) (pa_cons (pv 1) pa_nil)))
      (pss_cut (ps_set (i := 2) sc_read_in.nd rfl (.inl rfl) (pe_ifExp (pt_val (pe_m1 PySem.F.slot_str_startswith PySem.F.type_str_startswith mt_startswith (pv 0) pe_str)) (pe_slice sl_str (pv 0) (po_some pe_int) po_none) (pv 0)))
      (pss_cons (ps_setLc (i := 3) (own := [("sign", 6)]) (g := gName 6) (tt := tYes) (by rfl) sc_read_in.nd rfl rfl (sw_true rfl rfl rfl (by decide +kernel)) (pi_str (pv 2)) (blkOk_by (own := [("sign", 6)]) (N := ["text", "base", "digits", "places", "number", "place", "sign"]) (sc := defScope (top 48)) (by decide +kernel)) (fun _ _ _ _ _ => (pg_name (i := 6) sc_read_in.nd rfl (.inl rfl))) (fun _ _ _ _ _ => pts_nil) (fun _ _ _ _ _ => (pe_call G_place_of_digit (hr.mono (by omega)) (by rfl) L.place_of_digit.g L.place_of_digit.F.kp L.place_of_digit.b .nil pass0 (pa_cons (pv 6) pa_nil))))
      (pss_cons (ps_if (PW.pt (pw_or (pt_not (pt_truth (pv 3) (by intro _; rfl))) (pw_or1 (pt_not (pt_val (pe_callB (cr_all rfl) (by rfl) L.z_all (by decide +kernel) (pa_cons (pe_lc (own := [("place", 5)]) (g := gName 5) (tt := tYes) (by rfl) sc_read_in.nd (pi_list (pv 3)) (blkOk_by (own := [("place", 5)]) (N := ["text", "base", "digits", "places", "number", "place", "sign"]) (sc := defScope (top 48)) (by decide +kernel)) (fun _ _ _ _ _ => (pg_name (i := 5) sc_read_in.nd rfl (.inl rfl))) (fun _ _ _ _ _ => pts_nil) (fun _ _ _ _ _ => (pe_chain op_le op_lt pe_int (pv 5) (pv 1)))) pa_nil)))))))
        (pss_one (ps_raise2 rfl L.x_ScriptError.T (L.x_ScriptError.F _ _) (hr.mono (by omega)) (takes_of rfl rfl rfl rfl) L.x_ScriptError.b (by rfl) L.x_ScriptError.g (pa_cons pe_str (pa_cons pe_str pa_nil))))
        pss_nil)
      (pss_cons (ps_set (i := 4) sc_read_in.nd rfl (.inl rfl) pe_int)
      (pss_cons (ps_for (passes_of rfl) rfl (pi_list (pv 3)) (pg_name (i := 5) sc_read_in.nd rfl (.inl rfl))
        (pss_one (ps_set (i := 4) sc_read_in.nd rfl (.inl rfl) (pe_op op_add (pe_op op_mulW (pv 4) (pv 1)) (pv 5)))))
      (pss_one (ps_ret (pe_callS G_checked_integer (hr.mono (by omega)) (by rfl) L.checked_integer.g L.checked_integer.F.kp L.checked_integer.b (fun σ => passAt (takes_of rfl rfl rfl rfl) σ) (pa_cons (pe_ifExp (pt_val (pe_m1 PySem.F.slot_str_startswith PySem.F.type_str_startswith mt_startswith (pv 0) pe_str)) (pe_un un_neg (pv 4)) (pv 4)) pa_nil)))))))))), ?_⟩
    refine ⟨_, rfl, b, rfl, fun hb => ?_, q1⟩
    have q := q2 hb
    have lz : (S l).length ≤ sizeLine := by rw [S_len]; exact Nat.le_trans hl (by decide)
    have bl := bdy_len l
    refine ⟨fun σ' H' => σ' = [some (.str (S l)), some (.int b), some (.str (S (bdy l))), none, none, none, none] ∧ H' = H, ?_, ?_⟩
    · refine ⟨_, rfl, ⟨_, rfl⟩, _, _, rfl, rfl, _, rfl, ?_⟩
      rw [sw_minus]
      unfold bdy
      by_cases h : l.head? = some 45
      · rw [decide_eq_true h, if_pos h]
        refine iteT ⟨_, rfl, 1, rfl, _, rfl, lz, ?_, rfl⟩
        rw [show cutS (S l) (some 1) none = S (l.drop 1) from cut_from l 1]
        rfl
      · rw [decide_eq_false h, if_neg h]
        exact iteF ⟨_, rfl, rfl, rfl⟩
    rintro σ' H1 ⟨rfl, rfl⟩
    generalize hbd : bdy l = bd at bl
    refine ⟨_, rfl, _, rfl, fun D hD => lc_it walk_str (fun i H' => Same H1 H' ∧ H' D = some (.lst ((bd.take i).map fun c => V.int (pl c)))) ⟨same_upd hD, upd_same⟩ (fun _ _ _ _ => trivial) ?_ ?_⟩
    · rintro i x H' H2 hi ⟨s1, e1⟩ ⟨rfl, c, hc, rfl⟩
      refine ⟨rfl, _, rfl, c, rfl, _, e1, ?_, fun b o e => ?_, ?_⟩
      · rw [List.length_map, List.length_take]
        exact Nat.lt_of_le_of_lt (m := 2000) (by omega) (by decide)
      · rw [upd_ne (ne_of_none e hD)]
        exact s1 _ _ e
      · rw [upd_same, take_map (show bd[i]? = some c by simpa using hc)]
    · rintro H2 ⟨s1, e1⟩
      rw [show (S bd).cps.size = bd.length from S_len bd, List.take_length] at e1
      have q := q H2 s1
      unfold good num at q
      rw [hbd] at q
      by_cases hne : bd = []
      · refine ⟨_, rfl, false, .inl ⟨_, SqL.of e1, by rw [hne]; rfl⟩, iteT (iteT ?_)⟩
        exact made2 (by decide +kernel) (by decide +kernel) (q.1 fun z => z.1 hne)
      · refine ⟨_, rfl, true, .inl ⟨_, SqL.of e1, by cases bd; exact absurd rfl hne; rfl⟩, iteF ?_⟩
        have pD : ∀ D2, H2 D2 = none → D ≠ D2 := fun D2 h z => by rw [z, h] at e1; cases e1
        refine ⟨_, rfl, D, rfl, ⟨_, SqL.of e1⟩, fun D2 hD2 => lc_list (K := K) (a := D) (xs := bd.map fun c => V.int (pl c)) (fun i H' => Same H2 H' ∧ H' D2 = some (.lst (((bd.take i).map (okc b)).map V.bl))) ⟨same_upd hD2, upd_same⟩ (fun i H' _ h => SqL.of (h.1 _ _ e1)) ?_ ?_⟩
        · rintro i v H3 hv ⟨s3, e3⟩
          rw [List.getElem?_map] at hv
          cases hc : bd[i]? with
          | none => rw [hc] at hv; cases hv
          | some c =>
            rw [hc] at hv
            cases hv
            have hi : i < bd.length := (List.getElem?_eq_some_iff.mp hc).1
            have fin : ∀ t : Bool, t = okc b c → ∃ acc, H3 D2 = some (.lst acc) ∧ acc.length < sizeLine ∧ Same H2 (upd H3 D2 (.lst (acc ++ [V.bl t]))) ∧ upd H3 D2 (.lst (acc ++ [V.bl t])) D2 = some (.lst (((bd.take (i + 1)).map (okc b)).map V.bl)) := by
              rintro t rfl
              refine ⟨_, e3, ?_, fun b o e => ?_, ?_⟩
              · rw [List.length_map, List.length_map, List.length_take]
                exact Nat.lt_of_le_of_lt (m := 2000) (by omega) (by decide)
              · rw [upd_ne (ne_of_none e hD2)]
                exact s3 _ _ e
              · rw [upd_same, take_map hc, List.map_append]
                rfl
            refine ⟨rfl, _, rfl, _, _, rfl, rfl, _, rfl, ite2 (fun h => ?_) (fun h => ?_)⟩
            · refine ⟨_, rfl, _, _, rfl, rfl, fin _ ?_⟩
              unfold okc
              rw [h, Bool.true_and]
            · refine fin _ ?_
              unfold okc
              rw [decide_eq_false (nd h), Bool.false_and]
        · rintro H3 ⟨s3, e3⟩
          rw [List.length_map, List.take_length] at e3
          refine ⟨D2, _, rfl, SqL.of e3, _, rfl, ?_⟩
          have s13 := s1.trans s3
          have e13 := s3 _ _ e1
          have q := q2 hb H3 s13
          unfold good num at q
          rw [hbd] at q
          by_cases hg : ∀ c ∈ bd, 0 ≤ pl c ∧ pl c < b
          · rw [(all_ok b bd).mpr hg]
            refine iteF ⟨_, rfl, D, rfl, ⟨_, SqL.of e13⟩, for_list (K := K) (a := D) (xs := bd.map fun c => V.int (pl c)) (fun i σ H' => ∃ y : Option V, σ = [some (.str (S l)), some (.int b), some (.str (S bd)), some (.ref D), some (.int (vl b ((bd.take i).map pl))), y, none] ∧ H' = H3) ⟨none, rfl, rfl⟩ (fun i σ H' _ h => ?_) ?_ ?_⟩
            · obtain ⟨y, _, rfl⟩ := h
              exact SqL.of e13
            · rintro i v σ H' hv ⟨y, rfl, rfl⟩
              rw [List.getElem?_map] at hv
              cases hc : bd[i]? with
              | none => rw [hc] at hv; cases hv
              | some c =>
                rw [hc] at hv
                cases hv
                have hi : i < bd.length := (List.getElem?_eq_some_iff.mp hc).1
                have lt := (vl_lt hb i ((bd.take i).map pl) (by rw [List.length_map, List.length_take]; omega) fun d hd => by
                  obtain ⟨x, hx, rfl⟩ := List.mem_map.mp hd
                  exact hg x (List.mem_of_mem_take hx)).2
                refine ⟨_, rfl, _, rfl, _, _, rfl, rfl, wide_mul (a := 13000) (b := 100) (Nat.lt_of_lt_of_le lt (Nat.pow_le_pow_right (by decide) (by omega))) (Nat.lt_of_lt_of_le (m := 2 ^ 10) (by omega) (by decide +kernel)) (by decide) (by decide) (by decide), _, rfl, _, _, rfl, rfl, ?_⟩
                refine ⟨some (.int (pl c)), ?_, rfl⟩
                rw [take_map hc, vl_app]
                rfl
            · rintro σ H' ⟨y, rfl, rfl⟩
              rw [List.length_map, List.take_length]
              have g : bd ≠ [] ∧ ∀ c ∈ bd, 0 ≤ pl c ∧ pl c < b := ⟨hne, hg⟩
              refine ⟨_, rfl, ⟨_, rfl⟩, _, _, rfl, rfl, _, rfl, ?_⟩
              rw [sw_minus]
              by_cases h : l.head? = some 45
              · rw [decide_eq_true h]
                rw [if_pos h] at q
                exact iteT ⟨_, rfl, _, rfl, _, rfl, q.2.1 g, q.2.2 g⟩
              · rw [decide_eq_false h]
                rw [if_neg h] at q
                exact iteF ⟨_, rfl, _, rfl, q.2.1 g, q.2.2 g⟩
          · rw [Bool.eq_false_iff.mpr fun z => hg ((all_ok b bd).mp z)]
            exact iteT (made2 (by decide +kernel) (by decide +kernel) (q.1 fun z => hg z.2))
end
end My
namespace My
open PySem L2 SX XT XS XE XD XL XZ
open C8 (pss_cut tCut cutS_slice pe_gc)
section
variable {P : Program} {w : World} {K : PySem.W.Frag} {mg : Str → Option Value} {base : Heap} {A : Ads}
/-- an integer or a text, and its kind -/
def KV2 (v : V) (k : Str) : Prop := (∃ i, v = .int i ∧ k = "integer") ∨ ∃ x, v = .str x ∧ k = "text"
def spKOf : Sp := fun vs H Q _ => ∃ st v k, vs = [st, v] ∧ KV2 v k ∧ Q (.str k) H
theorem ok_kind_of (L : Lib P K mg A) : FnOk P w K mg base CX0 1 L.kind_of.f L.kind_of.fd ["store", "value"] spKOf := by
  refine L.kind_of.F.ok sc_kind_of (fun vs H Q E h => ?_) (fun cdv A' outer s H vs Q E hr h => ?_)
  · obtain ⟨st, v, k, rfl, _⟩ := h
    rfl
  · obtain ⟨st, v, k, rfl, hk, q⟩ := h
    refine ⟨_, (pss_cons (ps_if (pt_cmpR op_isN (pv 1) pe_non (nomark _))
        (pss_one (ps_ret pe_str))
        pss_nil)
      (pss_cons (ps_if (pt_val (pe_callB call_isi (by rfl) L.z_isinstance (by decide +kernel) (pa_cons (pv 1) (pa_cons (pe_bltn (v := .ty "bool") (by rfl) L.z_bool (by decide +kernel) rfl) pa_nil))))
        (pss_one (ps_ret pe_str))
        pss_nil)
      (pss_cons (ps_if (pt_val (pe_callB call_isi (by rfl) L.z_isinstance (by decide +kernel) (pa_cons (pv 1) (pa_cons (pe_bltn (v := .ty "int") (by rfl) L.z_int (by decide +kernel) rfl) pa_nil))))
        (pss_one (ps_ret pe_str))
        pss_nil)
      (pss_cons (ps_if (pt_val (pe_callB call_isi (by rfl) L.z_isinstance (by decide +kernel) (pa_cons (pv 1) (pa_cons (pe_bltn (v := .ty "str") (by rfl) L.z_str (by decide +kernel) rfl) pa_nil))))
        (pss_one (ps_ret pe_str))
        pss_nil)
      (pss_cons ps_never
      (pss_one ps_never)))))), ?_⟩
    rcases hk with ⟨i, rfl, rfl⟩ | ⟨x, rfl, rfl⟩
    · refine ⟨_, rfl, rfl, _, rfl, ite2 (fun h => absurd (of_decide_eq_true h) (by simp)) fun _ => ?_⟩
      refine ⟨_, rfl, _, .ty "bool", _, _, false, rfl, .ty _, .base (.int _), kit_ty (show kitB "int" "bool" = some false by decide +kernel), _, rfl, iteF ?_⟩
      exact ⟨_, rfl, _, .ty "int", _, _, true, rfl, .ty _, .base (.int _), kit_ty (show kitB "int" "int" = some true by decide +kernel), _, rfl, iteT q⟩
    · refine ⟨_, rfl, rfl, _, rfl, ite2 (fun h => absurd (of_decide_eq_true h) (by simp)) fun _ => ?_⟩
      refine ⟨_, rfl, _, .ty "bool", _, _, false, rfl, .ty _, .base (.str _), kit_ty (show kitB "str" "bool" = some false by decide +kernel), _, rfl, iteF ?_⟩
      refine ⟨_, rfl, _, .ty "int", _, _, false, rfl, .ty _, .base (.str _), kit_ty (show kitB "str" "int" = some false by decide +kernel), _, rfl, iteF ?_⟩
      exact ⟨_, rfl, _, .ty "str", _, _, true, rfl, .ty _, .base (.str _), kit_ty (show kitB "str" "str" = some true by decide +kernel), _, rfl, iteT q⟩
def spCK : Sp := fun vs H Q _ => ∃ st v k, vs = [st, v, .str k] ∧ KV2 v k ∧ Q .non H
theorem ok_check_kind (L : Lib P K mg A) : FnOk P w K mg base CX0 2 L.check_kind.f L.check_kind.fd ["store", "value", "kind"] spCK := by
  have G_kind_of : FnOk P w K mg base CX0 1 L.kind_of.f L.kind_of.fd ["store", "value"] spKOf := ok_kind_of L
  refine L.check_kind.F.ok sc_check_kind (fun vs H Q E h => ?_) (fun cdv A' outer s H vs Q E hr h => ?_)
  · obtain ⟨st, v, k, rfl, _⟩ := h
    rfl
  · obtain ⟨st, v, k, rfl, hk, q⟩ := h
    refine ⟨_, (pss_cons (ps_if (PW.pt (pw_or (pt_cmpR op_eq (pv 2) pe_str (nomark _)) (pw_or1 (pt_cmpR op_eq (pv 2) (pe_call G_kind_of (hr.mono (by omega)) (by rfl) L.kind_of.g L.kind_of.F.kp L.kind_of.b .nil pass0 (pa_cons (pv 0) (pa_cons (pv 1) pa_nil))) (nomark _)))))
        (pss_one ps_retN)
        pss_nil)
      (pss_cons ps_never
      (pss_one ps_never))), ?_⟩
    refine ⟨_, rfl, rfl, _, rfl, ite2 (fun _ => iteT q) (fun _ => ?_)⟩
    refine ⟨_, rfl, _, rfl, _, rfl, st, v, k, rfl, hk, rfl, _, rfl, ?_⟩
    rw [decide_eq_true rfl]
    exact iteT q
def spCC (K : PySem.W.Frag) : Sp := fun vs H Q _ => ∃ l xs, vs = [.ref l, .int (xs.length : Nat)] ∧ SqL K H l xs ∧ xs.length ≤ 1000 ∧ Q .non H
theorem ok_check_count (L : Lib P K mg A) : FnOk P w K mg base CX0 1 L.check_count.f L.check_count.fd ["values", "wanted"] (spCC K) := by
  refine L.check_count.F.ok sc_check_count (fun vs H Q E h => ?_) (fun cdv A' outer s H vs Q E hr h => ?_)
  · obtain ⟨l, xs, rfl, _⟩ := h
    rfl
  · obtain ⟨l, xs, rfl, hl, hz, q⟩ := h
    refine ⟨_, (pss_one (ps_if (pt_cmpR op_ne (pe_callB call_len_seq (by rfl) L.z_len PySem.boot_len (pa_cons (pv 0) pa_nil)) (pv 1) (nomark _))
        (pss_one ps_never)
        pss_nil)), ?_⟩
    refine ⟨_, rfl, l, xs, rfl, .inl hl, _, rfl, rfl, _, rfl, ?_⟩
    refine ite2 (fun h => ?_) (fun _ => q)
    simp at h
def KVs : List V → List V → Prop
  | [], [] => True
  | v :: vs, .str k :: ks => KV2 v k ∧ KVs vs ks
  | _, _ => False
theorem KVs.len : ∀ {vs ks : List V}, KVs vs ks → vs.length = ks.length
  | [], [], _ => rfl
  | _ :: _, .str _ :: _, h => congrArg (· + 1) (KVs.len h.2)
theorem KVs.at : ∀ {vs ks : List V} {i : Nat} {v u : V}, KVs vs ks → vs[i]? = some v → ks[i]? = some u → ∃ k, u = .str k ∧ KV2 v k
  | _ :: _, .str _ :: _, 0, _, _, h, e1, e2 => by
    simp at e1 e2
    subst e1 e2
    exact ⟨_, rfl, h.1⟩
  | _ :: _, .str _ :: _, i + 1, _, _, h, e1, e2 => by
    simp at e1 e2
    exact KVs.at h.2 e1 e2
def spCA (K : PySem.W.Frag) : Sp := fun vs H Q _ => ∃ st l t xs ks, vs = [st, .ref l, .ref t] ∧ SqL K H l xs ∧ (∀ H, SqT K H t ks) ∧ KVs xs ks ∧ xs.length ≤ 10 ∧ ∀ H', Same H H' → Q .non H'
theorem ok_check_arguments (L : Lib P K mg A) : FnOk P w K mg base CX0 3 L.check_arguments.f L.check_arguments.fd ["store", "values", "kinds"] (spCA K) := by
  have G_check_count : FnOk P w K mg base CX0 1 L.check_count.f L.check_count.fd ["values", "wanted"] (spCC K) := ok_check_count L
  have G_check_kind : FnOk P w K mg base CX0 2 L.check_kind.f L.check_kind.fd ["store", "value", "kind"] spCK := ok_check_kind L
  refine L.check_arguments.F.ok sc_check_arguments (fun vs H Q E h => ?_) (fun cdv A' outer s H vs Q E hr h => ?_)
  · obtain ⟨st, l, t, xs, ks, rfl, _⟩ := h
    rfl
  · obtain ⟨st, l, t, xs, ks, rfl, hl, ht, hk, hz, q⟩ := h
    refine ⟨_, (pss_cons (ps_expr (pe_call G_check_count (hr.mono (by omega)) (by rfl) L.check_count.g L.check_count.F.kp L.check_count.b .nil pass0 (pa_cons (pv 1) (pa_cons (pe_callB call_len_seq (by rfl) L.z_len PySem.boot_len (pa_cons (pv 2) pa_nil)) pa_nil))))
      (pss_one (ps_for PassesOwn.never rfl (pi_zipM (by rfl) L.z_zip (pa_cons (pv 1) (pa_cons (pv 2) pa_nil))) (pg_tup (by rfl) (pgs_cons (pg_name (i := 3) sc_check_arguments.nd rfl (.inl rfl)) (pgs_cons (pg_name (i := 4) sc_check_arguments.nd rfl (.inl rfl)) pgs_nil)))
        (pss_one (ps_expr (pe_call G_check_kind (hr.mono (by omega)) (by rfl) L.check_kind.g L.check_kind.F.kp L.check_kind.b .nil pass0 (pa_cons (pv 0) (pa_cons (pv 3) (pa_cons (pv 4) pa_nil))))))))), ?_⟩
    have len := hk.len
    refine ⟨_, rfl, _, rfl, t, ks, rfl, .inr (ht H), l, xs, by rw [len]; rfl, hl, by omega, ?_⟩
    refine ⟨_, rfl, _, rfl, l, t, xs, ks, rfl, hl, ht H, for_zipM len (fun i σ H' => ∃ y3 y4 : Option V, σ = [some st, some (.ref l), some (.ref t), y3, y4] ∧ Same H H') ⟨none, none, rfl, Same.rf⟩ (fun i σ H' h => ?_) ?_ ?_⟩
    · obtain ⟨_, _, _, s1⟩ := h
      exact ⟨s1.seq hl, ht H'⟩
    · rintro i x y T σ H1 hx hy ⟨y3, y4, rfl, s1⟩ hT
      obtain ⟨k, rfl, hkv⟩ := hk.at hx hy
      refine ⟨T, [x, .str k], rfl, .inl (.inl upd_same), rfl, ?_⟩
      refine ⟨_, _, rfl, _, _, rfl, rfl, ?_⟩
      exact ⟨_, rfl, _, rfl, _, rfl, st, x, k, rfl, hkv, _, _, rfl, s1.trans (same_upd hT)⟩
    · rintro σ H1 ⟨y3, y4, rfl, s1⟩
      exact q H1 s1
end
end My
namespace My
open PySem L2 SX XT XS XE XD XL XZ
open C8 (pss_cut tCut cutS_slice pe_gc)
/-- the calls that the law makes -/
inductive Cl where
  | abs (a : Int)
  | pow (a e : Int)
  | gcd (a b : Int)
  | sqrt (a : Int)
  | base (n b : Int)
  | parse (l : List Nat) (b : Int)
def Cl.nm : Cl → Str
  | .abs _ => "abs" | .pow _ _ => "pow" | .gcd _ _ => "gcd" | .sqrt _ => "sqrt" | .base _ _ => "base" | .parse _ _ => "parse"
def Cl.args : Cl → List V
  | .abs a => [.int a] | .pow a e => [.int a, .int e] | .gcd a b => [.int a, .int b] | .sqrt a => [.int a] | .base n b => [.int n, .int b] | .parse l b => [.str (S l), .int b]
def Cl.kinds : Cl → List V
  | .abs _ => [.str "integer"] | .pow _ _ => [.str "integer", .str "integer"] | .gcd _ _ => [.str "integer", .str "integer"] | .sqrt _ => [.str "integer"] | .base _ _ => [.str "integer", .str "integer"] | .parse _ _ => [.str "text", .str "integer"]
theorem Cl.kvs : ∀ c : Cl, KVs c.args c.kinds
  | .abs _ => ⟨.inl ⟨_, rfl, rfl⟩, trivial⟩
  | .pow _ _ => ⟨.inl ⟨_, rfl, rfl⟩, .inl ⟨_, rfl, rfl⟩, trivial⟩
  | .gcd _ _ => ⟨.inl ⟨_, rfl, rfl⟩, .inl ⟨_, rfl, rfl⟩, trivial⟩
  | .sqrt _ => ⟨.inl ⟨_, rfl, rfl⟩, trivial⟩
  | .base _ _ => ⟨.inl ⟨_, rfl, rfl⟩, .inl ⟨_, rfl, rfl⟩, trivial⟩
  | .parse _ _ => ⟨.inr ⟨_, rfl, rfl⟩, .inl ⟨_, rfl, rfl⟩, trivial⟩
theorem Cl.len : ∀ c : Cl, c.args.length ≤ 10
  | .abs _ | .pow _ _ | .gcd _ _ | .sqrt _ | .base _ _ | .parse _ _ => by simp [Cl.args]
def absI (a : Int) : Int := if a < 0 then -a else a
/-- what each call comes to -/
def Cl.q (A : Ads) (H : Hp) (Q : VK) (E : XK) : Cl → Prop
  | .abs a => Q (.int (absI a)) H
  | .pow a e => a.natAbs < big ∧ e ≤ 100000 ∧ (e < 0 → Err E (cE A) H "ValueError" "the exponent is negative") ∧ (0 ≤ e → ∀ H', Same H H' → ((a ^ e.toNat).natAbs < big → Q (.int (a ^ e.toNat)) H') ∧ (¬ (a ^ e.toNat).natAbs < big → Err E (cE A) H' "OverflowError" "the integer is too large"))
  | .gcd a b => Q (.int ((Nat.gcd a.natAbs b.natAbs : Nat) : Int)) H
  | .sqrt a => a.natAbs < big ∧ (a < 0 → Err E (cE A) H "ValueError" "the integer is negative") ∧ (0 ≤ a → Q (.int ((sqr a.toNat : Nat) : Int)) H)
  | .base n b => n.natAbs < big ∧ (¬ (2 ≤ b ∧ b ≤ 36) → Err E (cE A) H "ValueError" "no such base") ∧ (2 ≤ b ∧ b ≤ 36 → ∀ H', Same H H' → Q (.str (S (wrS b.toNat n))) H')
  | .parse l b => l.length ≤ 2000 ∧ (¬ (2 ≤ b ∧ b ≤ 36) → Err E (cE A) H "ValueError" "no such base") ∧ (2 ≤ b ∧ b ≤ 36 → ∀ H', Same H H' →
    (¬ good b l → Err E (cE A) H' "ValueError" "not an integer") ∧ (good b l → (num b l).natAbs < big → Q (.int (num b l)) H') ∧ (good b l → ¬ (num b l).natAbs < big → Err E (cE A) H' "OverflowError" "the integer is too large"))
def spC (A : Ads) (c : Cl) : Sp := fun vs H Q E => (∃ st, vs = st :: c.args) ∧ c.q A H Q E
section
variable {P : Program} {w : World} {K : PySem.W.Frag} {mg : Str → Option Value} {base : Heap} {A : Ads}
def Cl.fn (L : Lib P K mg A) : Cl → Addr
  | .abs _ => L.without_sign.f | .pow _ _ => L.power.f | .gcd _ _ => L.divisor.f | .sqrt _ => L.root.f | .base _ _ => L.in_base.f | .parse _ _ => L.from_base.f
theorem held (L : Lib P K mg A) (Z : Mth mg) : ∀ c : Cl, HeldX P w K mg base 6 (c.fn L) (spC A c)
  | .abs a => ⟨L.without_sign.fd, ["store", "number"], by
      refine L.without_sign.F.okX (k := 5) sc_without_sign (fun vs H Q E h => ?_) (fun cdv A' outer s H vs Q E hr h => ?_)
      · obtain ⟨⟨st, rfl⟩, _⟩ := h
        rfl
      · obtain ⟨⟨st, rfl⟩, q⟩ := h
        exact ⟨_, (pss_one (ps_ret (pe_callB call_abs (by rfl) L.z_abs (by decide +kernel) (pa_cons (pv 1) pa_nil)))), _, rfl, _, rfl, q⟩, L.without_sign.F.kp, L.without_sign.b⟩
  | .gcd a b => ⟨L.divisor.fd, ["store", "number", "other"], by
      refine L.divisor.F.okX (k := 5) sc_divisor (fun vs H Q E h => ?_) (fun cdv A' outer s H vs Q E hr h => ?_)
      · obtain ⟨⟨st, rfl⟩, _⟩ := h
        rfl
      · obtain ⟨⟨st, rfl⟩, q⟩ := h
        exact ⟨_, (pss_one (ps_ret (pe_callBfun cr_gcd (by rfl) Z.gc (pa_cons (pv 1) (pa_cons (pv 2) pa_nil))))), _, rfl, _, rfl, _, _, rfl, q⟩, L.divisor.F.kp, L.divisor.b⟩
  | .sqrt a => ⟨L.root.fd, ["store", "number"], by
      have G_root_of : FnOk P w K mg base (L2.CX P w) 3 L.root_of.f L.root_of.fd ["number"] (spRoot A) := ok_root_of L Z
      refine L.root.F.okX (k := 5) sc_root (fun vs H Q E h => ?_) (fun cdv A' outer s H vs Q E hr h => ?_)
      · obtain ⟨⟨st, rfl⟩, _⟩ := h
        rfl
      · obtain ⟨⟨st, rfl⟩, q⟩ := h
        exact ⟨_, (pss_one (ps_ret (pe_callS G_root_of (hr.mono (by omega)) (by rfl) L.root_of.g L.root_of.F.kp L.root_of.b (fun σ => passAt (takes_of rfl rfl rfl rfl) σ) (pa_cons (pv 1) pa_nil)))), _, rfl, _, rfl, q⟩, L.root.F.kp, L.root.b⟩
  | .pow a e => ⟨L.power.fd, ["store", "number", "exponent"], by
      have G_raised : FnOk P w K mg base (L2.CX P w) 4 L.raised.f L.raised.fd ["number", "exponent"] (spRaised A) := ok_raised L
      refine L.power.F.okX (k := 5) sc_power (fun vs H Q E h => ?_) (fun cdv A' outer s H vs Q E hr h => ?_)
      · obtain ⟨⟨st, rfl⟩, _⟩ := h
        rfl
      · obtain ⟨⟨st, rfl⟩, q⟩ := h
        exact ⟨_, (pss_one (ps_ret (pe_callS G_raised (hr.mono (by omega)) (by rfl) L.raised.g L.raised.F.kp L.raised.b (fun σ => passAt (takes_of rfl rfl rfl rfl) σ) (pa_cons (pv 1) (pa_cons (pv 2) pa_nil))))), _, rfl, _, rfl, _, _, rfl, q⟩, L.power.F.kp, L.power.b⟩
  | .base n b => ⟨L.in_base.fd, ["store", "number", "base"], by
      have G_written_in : FnOk P w K mg base (L2.CX P w) 4 L.written_in.f L.written_in.fd ["number", "base"] (spWritten A) := ok_written_in L
      refine L.in_base.F.okX (k := 5) sc_in_base (fun vs H Q E h => ?_) (fun cdv A' outer s H vs Q E hr h => ?_)
      · obtain ⟨⟨st, rfl⟩, _⟩ := h
        rfl
      · obtain ⟨⟨st, rfl⟩, q⟩ := h
        exact ⟨_, (pss_one (ps_ret (pe_callS G_written_in (hr.mono (by omega)) (by rfl) L.written_in.g L.written_in.F.kp L.written_in.b (fun σ => passAt (takes_of rfl rfl rfl rfl) σ) (pa_cons (pv 1) (pa_cons (pv 2) pa_nil))))), _, rfl, _, rfl, _, _, rfl, q⟩, L.in_base.F.kp, L.in_base.b⟩
  | .parse l b => ⟨L.from_base.fd, ["store", "text", "base"], by
      have G_read_in : FnOk P w K mg base (L2.CX P w) 4 L.read_in.f L.read_in.fd ["text", "base"] (spRead A) := ok_read_in L
      refine L.from_base.F.okX (k := 5) sc_from_base (fun vs H Q E h => ?_) (fun cdv A' outer s H vs Q E hr h => ?_)
      · obtain ⟨⟨st, rfl⟩, _⟩ := h
        rfl
      · obtain ⟨⟨st, rfl⟩, q⟩ := h
        exact ⟨_, (pss_one (ps_ret (pe_callS G_read_in (hr.mono (by omega)) (by rfl) L.read_in.g L.read_in.F.kp L.read_in.b (fun σ => passAt (takes_of rfl rfl rfl rfl) σ) (pa_cons (pv 1) (pa_cons (pv 2) pa_nil))))), _, rfl, _, rfl, _, _, rfl, q⟩, L.from_base.F.kp, L.from_base.b⟩
/-- the tables of the built-in functions -/
structure Fd (w : World) (L : Lib P K mg A) where
  f : Addr
  fe : Array DictEntry
  fn : Nat
  fk : KDict K w f fe fn
  gf : mg "FREE_FUNCTIONS" = some (.ref f)
  miss : ∀ c : Cl, PySem.W.nsIn K f c.nm = some none
  d : Addr
  gd : mg "FUNCTIONS" = some (.ref d)
  at_ : ∀ c : Cl, ∃ t k, KDct K w d c.nm (.ref t) ∧ (∀ H, SqT K H t [.ref (c.fn L), .ref k]) ∧ ∀ H, SqT K H k c.kinds
theorem Cl.q_same {A : Ads} {H H' : Hp} {Q : VK} {E : XK} (c : Cl) : c.q A H Q E → c.q A H Q E := id
def spCB (K : PySem.W.Frag) (A : Ads) : Sp := fun vs H Q E => ∃ st l c, vs = [st, .str (Cl.nm c), .ref l] ∧ SqL K H l c.args ∧ ∀ H', Same H H' → c.q A H' Q E
theorem ok_call_builtin (L : Lib P K mg A) (Z : Mth mg) (D : Fd w L) : FnOk P w K mg base (L2.CX P w) 7 L.call_builtin.f L.call_builtin.fd ["store", "name", "values"] (spCB K A) := by
  have G_check_arguments : FnOk P w K mg base CX0 3 L.check_arguments.f L.check_arguments.fd ["store", "values", "kinds"] (spCA K) := ok_check_arguments L
  refine L.call_builtin.F.okX sc_call_builtin (fun vs H Q E h => ?_) (fun cdv A' outer s H vs Q E hr h => ?_)
  · obtain ⟨st, l, c, rfl, _⟩ := h
    rfl
  · obtain ⟨st, l, c, rfl, hl, q⟩ := h
    have hS : ∀ f sp, (fun g => if g = c.fn L then some (spC A c) else none) f = some sp → HeldX P w K mg base 6 f sp := fun f sp e => by
      by_cases h : f = c.fn L
      · simp only [if_pos h] at e
        cases e
        subst h
        exact held L Z c
      · simp only [if_neg h] at e
        cases e
    refine ⟨_, (pss_cons (ps_if (pt_cmpR (op_in_kd D.fk) (pv 1) (pe_gc (v := .ref D.f) (by rfl) ⟨_, D.gf, rfl⟩) (by rfl))
        (pss_cons ps_never
      (pss_one ps_never))
        pss_nil)
      (pss_cons (ps_asg (pe_ix ix_kdict (pe_gc (v := .ref D.d) (by rfl) ⟨_, D.gd, rfl⟩) (pv 1) (fun _ _ => rfl)) (pg_tup (by rfl) (pgs_cons (pg_name (i := 3) sc_call_builtin.nd rfl (.inl rfl)) (pgs_cons (pg_name (i := 4) sc_call_builtin.nd rfl (.inl rfl)) pgs_nil))))
      (pss_cons (ps_expr (pe_call G_check_arguments (hr.mono (by omega)) (by rfl) L.check_arguments.g L.check_arguments.F.kp L.check_arguments.b .nil pass0 (pa_cons (pv 0) (pa_cons (pv 2) (pa_cons (pv 4) pa_nil)))))
      (pss_one (ps_ret (XS.pe_callXS (k := 6) (i := 3) hS (hr.mono (by omega)) rfl (.inl rfl) (fun σ => passAt (takes_of rfl rfl rfl rfl) σ) (pa_cons (pv 0) (StX.pa_star (pv 2) pa_nil)))))))), ?_⟩
    refine ⟨_, rfl, _, none, rfl, rfl, D.miss c, _, rfl, ?_⟩
    refine iteF ?_
    obtain ⟨t, k, hd, ht, hk⟩ := D.at_ c
    refine ⟨_, rfl, D.d, _, _, rfl, rfl, hd, t, _, rfl, ht H, rfl, ?_⟩
    refine ⟨_, _, rfl, _, _, rfl, rfl, ?_⟩
    refine ⟨_, rfl, _, rfl, _, rfl, st, l, k, _, _, rfl, hl, hk, c.kvs, c.len, fun H1 s1 => ?_⟩
    exact ⟨c.fn L, spC A c, rfl, if_pos rfl, _, rfl, _, rfl, l, _, rfl, .inr (s1.seq hl), ⟨st, by rw [List.append_nil]⟩, q H1 s1⟩
end
end My
namespace My
open PySem L2 SX XT XS XE XD XL XZ
open C8 (pss_cut tCut cutS_slice pe_gc)
section
variable {P : Program} {w : World} {K : PySem.W.Frag} {mg : Str → Option Value} {base : Heap} {A : Ads}
def spIT (C : Addr) (n : Nat) : Sp := fun vs H Q _ => ∃ a dx rest, vs = V.ref a :: rest ∧ rest.length = n ∧ H a = some (.ins C dx []) ∧ ∀ H' fs, Keep a H H' → H' a = some (.ins C dx fs) → Q .non H'
theorem ok_Kin_init (L : Lib P K mg A) : FnOk P w K mg base CX0 1 L.Kin_init.f L.Kin_init.fd ["self", "name", "parent"] (spIT A.Kin 2) := by
  refine L.Kin_init.F.ok sc_Kin_init (fun vs H Q E h => ?_) (fun cdv A' outer s H vs Q E hr h => ?_)
  · obtain ⟨a, dx, rest, rfl, hl, _⟩ := h
    show rest.length + 1 = _
    rw [hl]
    rfl
  · obtain ⟨a, dx, rest, rfl, hl, ha, q⟩ := h
    obtain ⟨v1, v2, rfl⟩ : ∃ v1 v2, rest = [v1, v2] := by
      match rest, hl with
      | [v1, v2], _ => exact ⟨_, _, rfl⟩
    refine ⟨_, (pss_cons (ps_fld (pv 0) (pv 1) rfl)
      (pss_cons (ps_fld (pv 0) (pv 2) rfl)
      (pss_one (ps_fld (pv 0) pe_dnewK rfl)))), ?_⟩
    refine ⟨_, rfl, _, rfl, a, A.Kin, dx, _, rfl, ha, L.c_Kin.cl, L.n_Kin_name, (by show 0 < 1000; decide), ?_⟩
    refine ⟨_, rfl, _, rfl, a, A.Kin, dx, _, rfl, upd_same, L.c_Kin.cl, L.n_Kin_parent, (by show 1 < 1000; decide), ?_⟩
    refine fun m hm => ?_
    refine ⟨_, rfl, a, A.Kin, dx, _, rfl, (by rw [upd_ne (ne_of_none upd_same hm)]; exact upd_same), L.c_Kin.cl, L.n_Kin_methods, (by show 2 < 1000; decide), ?_⟩
    exact q _ _ (fun b o e n => by rw [upd_ne n, upd_ne (ne_of_none (H := upd (upd H a _) a _) (by rw [upd_ne n, upd_ne n]; exact e) hm), upd_ne n, upd_ne n]; exact e) upd_same
def stF (t o l : Addr) : List (Str × V) := [("things", .ref t), ("output", .ref o), ("lines", .ref l), ("taken", .int 0)]
def StoreAt (cS : Addr) (H : Hp) (s : Addr) : Prop := ∃ dx t o l x, H s = some (.ins cS dx (stF t o l)) ∧ H t = some (.lst [.ref x]) ∧ H o = some (.lst [])
theorem StoreAt.same {cS : Addr} {H H' : Hp} (k : Same H H') {s : Addr} (h : StoreAt cS H s) : StoreAt cS H' s := by
  obtain ⟨dx, t, o, l, x, h1, h2, h3⟩ := h
  exact ⟨dx, t, o, l, x, k _ _ h1, k _ _ h2, k _ _ h3⟩
def spIS (K : PySem.W.Frag) (cS : Addr) : Sp := fun vs H Q _ => ∃ a dx l xs, vs = [.ref a, .ref l] ∧ H a = some (.ins cS dx []) ∧ SqL K H l xs ∧ ∀ H', Keep a H H' → StoreAt cS H' a → Q .non H'
theorem ok_Store_init (L : Lib P K mg A) : FnOk P w K mg base CX0 3 L.Store_init.f L.Store_init.fd ["self", "lines"] (spIS K A.Store) := by
  have G_Kin_init : FnOk P w K mg base CX0 1 L.Kin_init.f L.Kin_init.fd ["self", "name", "parent"] (spIT A.Kin 2) := ok_Kin_init L
  refine L.Store_init.F.ok sc_Store_init (fun vs H Q E h => ?_) (fun cdv A' outer s H vs Q E hr h => ?_)
  · obtain ⟨a, dx, l, xs, rfl, _⟩ := h
    rfl
  · obtain ⟨a, dx, l, xs, rfl, ha, hl, q⟩ := h
    refine ⟨_, (pss_cons (ps_fld (pv 0) (pe_lst (pa_cons (pe_make L.Kin_init.m G_Kin_init (hr.mono (by omega)) (by rfl) L.c_Kin.g L.Kin_init.b .nil pass0 (pa_cons pe_str (pa_cons pe_non pa_nil))) pa_nil)) rfl)
      (pss_cons (ps_fld (pv 0) (pe_lst pa_nil) rfl)
      (pss_cons (ps_fld (pv 0) (pe_callTy call_list_of (by rfl) L.z_list (by decide +kernel) (pa_cons (pv 1) pa_nil)) rfl)
      (pss_one (ps_fld (pv 0) pe_int rfl))))), ?_⟩
    intro y dy ny ndy nyd
    refine ⟨y, dy, _, rfl, rfl, upd_same, fun H1 fs k1 hy => ⟨rfl, ?_⟩⟩
    have s1 : Same H H1 := Same.made ny ndy k1
    refine ⟨(by show 1 ≤ sizeLine; decide), fun t nt => ?_⟩
    have nt0 : H t = none := s1.free nt
    have ha1 := s1 _ _ ha
    have nat : a ≠ t := ne_of_none ha1 nt
    refine ⟨_, rfl, a, A.Store, dx, [], rfl, (by rw [upd_ne nat]; exact ha1), L.c_Store.cl, L.n_Store_things, (by show 0 < 1000; decide), ?_⟩
    refine ⟨Nat.zero_le _, fun o no => ?_⟩
    have nao : a ≠ o := ne_of_none upd_same no
    refine ⟨_, rfl, a, A.Store, dx, _, rfl, (by rw [upd_ne nao]; exact upd_same), L.c_Store.cl, L.n_Store_output, (by show 1 < 1000; decide), ?_⟩
    have hne : ∀ b ob, H b = some ob → b ≠ y ∧ b ≠ t ∧ (b ≠ a → b ≠ o) := fun b ob e => by
      have e1 := s1 _ _ e
      refine ⟨(fun z => by rw [z, ny] at e; cases e), (fun z => by rw [z, nt] at e1; cases e1), fun n z => ?_⟩
      subst z
      rw [upd_ne n, upd_ne (fun z => by rw [z, nt] at e1; cases e1)] at no
      rw [no] at e1
      cases e1
    have nyt : y ≠ t := ne_of_none hy nt
    have nya : y ≠ a := fun z => by rw [z, ha] at ny; cases ny
    have nyo : y ≠ o := fun z => by
      subst z
      rw [upd_ne nya, upd_ne nyt, hy] at no
      cases no
    have nto : t ≠ o := fun z => by
      subst z
      rw [upd_ne nat.symm, upd_same] at no
      cases no
    refine ⟨_, rfl, l, xs, rfl, .inl ?_, fun m hm => ?_⟩
    · have nl : ∀ ob, H l = some ob → ob ≠ .ins A.Store dx [] → (upd (upd (upd (upd H1 t (.lst [V.ref y])) a (.ins A.Store dx (putF "things" (V.ref t) []))) o (.lst [])) a (.ins A.Store dx (putF "output" (V.ref o) (putF "things" (V.ref t) [])))) l = some ob := fun ob e n => by
        have na : l ≠ a := fun z => n (by rw [z, ha] at e; exact (Option.some.inj e).symm)
        obtain ⟨_, n2, n3⟩ := hne _ _ e
        rw [upd_ne na, upd_ne (n3 na), upd_ne na, upd_ne n2]
        exact s1 _ _ e
      rcases hl with (hl | ⟨ob, hl⟩) | hl
      · exact .inl (.inl (nl _ hl nofun))
      · exact .inl (.inr ⟨ob, nl _ hl nofun⟩)
      · exact .inr hl
    · have nam : a ≠ m := ne_of_none upd_same hm
      refine ⟨_, rfl, a, A.Store, dx, _, rfl, (by rw [upd_ne nam]; exact upd_same), L.c_Store.cl, L.n_Store_lines, (by show 2 < 1000; decide), ?_⟩
      refine ⟨_, rfl, a, A.Store, dx, _, rfl, upd_same, L.c_Store.cl, L.n_Store_taken, (by show 3 < 1000; decide), ?_⟩
      have nym : y ≠ m := fun z => by
        subst z
        rw [upd_ne nya, upd_ne nyo, upd_ne nya, upd_ne nyt, hy] at hm
        cases hm
      have ntm : t ≠ m := fun z => by
        subst z
        rw [upd_ne nat.symm, upd_ne nto, upd_ne nat.symm, upd_same] at hm
        cases hm
      refine q _ (fun b ob e n => ?_) ⟨dx, t, o, m, y, ?_, ?_, ?_⟩
      · obtain ⟨_, n2, n3⟩ := hne _ _ e
        have nbm : b ≠ m := fun z => by
          subst z
          rw [upd_ne n, upd_ne (n3 n), upd_ne n, upd_ne n2, s1 _ _ e] at hm
          cases hm
        rw [upd_ne n, upd_ne n, upd_ne nbm, upd_ne n, upd_ne (n3 n), upd_ne n, upd_ne n2]
        exact s1 _ _ e
      · rw [upd_same]
        rfl
      · rw [upd_ne nat.symm, upd_ne nat.symm, upd_ne ntm, upd_ne nat.symm, upd_ne nto, upd_ne nat.symm, upd_same]
      · have nom : o ≠ m := fun z => by
          subst z
          rw [upd_ne nao.symm, upd_same] at hm
          cases hm
        rw [upd_ne nao.symm, upd_ne nao.symm, upd_ne nom, upd_ne nao.symm, upd_same]
end
section
variable {P : Program} {w : World} {K : PySem.W.Frag} {mg : Str → Option Value} {base : Heap} {A : Ads}
def tQ (Q : VK) : VK := fun v H' => ∀ H2 t, Same H' H2 → H2 t = none → Q (.ref t) (upd H2 t (.tup [.str "told", v]))
def tE (A : Ads) (Q : VK) : XK := fun c dd H' => ∃ (d : Addr) (k m : Str) (H0 : Hp), c = .ref A.ScriptError ∧ dd = some d ∧ H0 d = none ∧ H' = upd H0 d (.xd [("message", .str m), ("kind", .str k)]) ∧ ∀ t H2, Same H0 H2 → H2 t = none → Q (.ref t) (upd H2 t (.tup [.str k, .str m]))
theorem tE_err {Q : VK} {H : Hp} {k m : Str} (h : ∀ t H2, Same H H2 → H2 t = none → Q (.ref t) (upd H2 t (.tup [.str k, .str m]))) : Err (tE A Q) A.ScriptError H k m := fun d hd => ⟨d, k, m, H, rfl, rfl, hd, rfl, h⟩
theorem Err.mono {E E' : XK} {C : Addr} {H : Hp} {k m : Str} (he : ∀ c d H', E c d H' → E' c d H') (h : Err E C H k m) : Err E' C H k m := fun d hd => he _ _ _ (h d hd)
theorem Cl.mono {A : Ads} {H : Hp} {Q Q' : VK} {E E' : XK} (hq : ∀ v H', Q v H' → Q' v H') (he : ∀ c d H', E c d H' → E' c d H') : ∀ c : Cl, c.q A H Q E → c.q A H Q' E'
  | .abs _, h => hq _ _ h
  | .gcd _ _, h => hq _ _ h
  | .sqrt _, ⟨h1, h2, h3⟩ => ⟨h1, fun z => (h2 z).mono he, fun z => hq _ _ (h3 z)⟩
  | .pow _ _, ⟨h1, h2, h3, h4⟩ => ⟨h1, h2, fun z => (h3 z).mono he, fun z H' s => ⟨fun y => hq _ _ ((h4 z H' s).1 y), fun y => ((h4 z H' s).2 y).mono he⟩⟩
  | .base _ _, ⟨h1, h2, h3⟩ => ⟨h1, fun z => (h2 z).mono he, fun z H' s => hq _ _ (h3 z H' s)⟩
  | .parse _ _, ⟨h1, h2, h3⟩ => ⟨h1, fun z => (h2 z).mono he, fun z H' s => ⟨fun y => ((h3 z H' s).1 y).mono he, fun y y2 => hq _ _ ((h3 z H' s).2.1 y y2), fun y y2 => ((h3 z H' s).2.2 y y2).mono he⟩⟩
def spCall (K : PySem.W.Frag) (A : Ads) : Sp := fun vs H Q _ => ∃ l c, vs = [.str (Cl.nm c), .ref l] ∧ SqL K H l c.args ∧ ∀ H', Same H H' → c.q A H' (tQ Q) (tE A Q)
theorem ok_law_call (L : Lib P K mg A) (Z : Mth mg) (D : Fd w L) : FnOk P w K mg base CX0 9 L.law_call.f L.law_call.fd ["name", "values"] (spCall K A) := by
  have G_call_builtin : FnOk P w K mg base (L2.CX P w) 7 L.call_builtin.f L.call_builtin.fd ["store", "name", "values"] (spCB K A) := ok_call_builtin L Z D
  have G_Store_init : FnOk P w K mg base CX0 3 L.Store_init.f L.Store_init.fd ["self", "lines"] (spIS K A.Store) := ok_Store_init L
  refine L.law_call.F.ok sc_law_call (fun vs H Q E h => ?_) (fun cdv A' outer s H vs Q E hr h => ?_)
  · obtain ⟨l, c, rfl, _⟩ := h
    rfl
  · obtain ⟨l, c, rfl, hl, q⟩ := h
    refine ⟨_, (pss_cons (ps_try_as (i := 3) (Wout := fun _ _ _ _ => False) rfl rfl sc_law_call.nd rfl rfl ⟨rfl, by decide, .inl L.x_ScriptError.g⟩ takes0 (fun W pn xe tk _ => pss_one (ps_set (i := 2) sc_law_call.nd rfl (.inl rfl) (by exact (pe_callS G_call_builtin (hr.mono (by omega)) (by rfl) L.call_builtin.g L.call_builtin.F.kp L.call_builtin.b (fun σ => passAt tk σ) (by exact (pa_cons (pe_make L.Store_init.m G_Store_init (hr.mono (by omega)) (by rfl) L.c_Store.g L.Store_init.b .nil pass0 (pa_cons (pe_lst pa_nil) pa_nil)) (pa_cons (pv 0) (pa_cons (pv 1) pa_nil)))))))) (fun a oe cls d pn hz hf => pss_one (ps_ret (pe_tup (pa_cons (pe_xf L.x_ScriptError.T.xf L.x_ScriptError.T.n1 hz hf (pv 3)) (pa_cons (pe_xf L.x_ScriptError.T.xf L.x_ScriptError.T.n2 hz hf (pv 3)) pa_nil))))))
      (pss_one (ps_ret (pe_tup (pa_cons pe_str (pa_cons (pv 2) pa_nil)))))), ?_⟩
    refine ⟨Nat.zero_le _, fun z hz => ?_⟩
    intro y dy ny ndy nyd
    have nzy : z ≠ y := ne_of_none upd_same ny
    have nzd : z ≠ dy := ne_of_none upd_same ndy
    refine ⟨y, dy, z, [], rfl, upd_same, .inl (.inl (by first | rw [upd_ne nzy, upd_ne nzd]; exact upd_same | rw [upd_ne nzd, upd_ne nzy]; exact upd_same)), fun H1 k1 _ => ⟨rfl, ?_⟩⟩
    have s1 : Same H H1 := (same_upd hz).trans (Same.made ny ndy k1)
    refine ⟨_, rfl, _, rfl, _, l, c, rfl, s1.seq hl, fun H2 s2 => ?_⟩
    refine Cl.mono (fun v H' h => ?_) (fun cc dd H' h => ?_) c (q H2 (s1.trans s2))
    · exact ⟨_, rfl, by show 2 ≤ sizeLine; decide, fun t ht => h H' t Same.rf ht⟩
    · obtain ⟨d, k, mm, H0, rfl, rfl, hd, rfl, h⟩ := h
      have xd : upd H0 d (.xd [("message", .str mm), ("kind", .str k)]) d = some (.xd [("message", .str mm), ("kind", .str k)]) := upd_same
      refine ⟨true, L.x_ScriptError.T.te, fun _ a0 _ => ?_, fun q => Bool.noConfusion q⟩
      exact ⟨_, rfl, rfl, rfl, d, _, _, rfl, xd, (by rw [lk_skip (by decide +kernel)]; exact lk_hit), _, rfl, rfl, rfl, d, _, _, rfl, xd, lk_hit, (by show 2 ≤ sizeLine; decide), fun t ht => h t _ (same_upd hd) ht⟩
end
end My
namespace My
open PySem L2 SX XT XS XE XD XL XZ
open C8 (pss_cut tCut cutS_slice pe_gc)
section
variable {P : Program} {w : World} {K : PySem.W.Frag} {mg : Str → Option Value} {base : Heap} {A : Ads}
def spGreatest : Sp := fun vs H Q _ => vs = [] ∧ Q (.int big) H
def tP (i : Nat) : Int := (1000000000000000000000000000000 : Int) ^ i
theorem tP_lt {i : Nat} (h : i ≤ 10) : (tP i).natAbs < 2 ^ 997 := by
  unfold tP
  rw [Int.natAbs_pow]
  refine Nat.lt_of_le_of_lt (Nat.pow_le_pow_right (by decide) h) (by decide +kernel)
theorem tP_ten : tP 10 = (big : Int) := by
  unfold tP big
  decide +kernel
theorem ok_law_greatest (L : Lib P K mg A) : FnOk P w K mg base CX0 1 L.law_greatest.f L.law_greatest.fd [] spGreatest := by
  refine L.law_greatest.F.ok sc_law_greatest (fun vs H Q E h => ?_) (fun cdv A' outer s H vs Q E hr h => ?_)
  · obtain ⟨rfl, _⟩ := h
    rfl
  · obtain ⟨rfl, q⟩ := h
    refine ⟨_, (pss_cons (ps_set (i := 0) sc_law_greatest.nd rfl (.inl rfl) pe_int)
      (pss_cons (ps_for PassesOwn.never rfl (pi_range1 (by rfl) L.z_range (pa_cons pe_int pa_nil)) (pg_name (i := 1) sc_law_greatest.nd rfl (.inl rfl))
        (pss_one (ps_set (i := 0) sc_law_greatest.nd rfl (.inl rfl) (pe_op op_mulW (pv 0) pe_int))))
      (pss_one (ps_ret (pv 0))))), ?_⟩
    refine ⟨10, rfl, by decide, by decide, for_range (n := 10) (fun i σ H' => ∃ y : Option V, σ = [some (.int (tP i)), y] ∧ H' = H) ⟨none, rfl, rfl⟩ ?_ ?_⟩
    · rintro i σ H' hi ⟨y, rfl, rfl⟩
      refine ⟨_, rfl, _, _, rfl, rfl, wide_mul (tP_lt (by omega)) (b := 100) (by decide +kernel) (by decide) (by decide) (by decide), ?_⟩
      refine ⟨some (.int (0 + i)), ?_, rfl⟩
      have e : tP i * 1000000000000000000000000000000 = tP (i + 1) := by
        unfold tP
        rw [Int.pow_succ]
      show [some (V.int (tP i * 1000000000000000000000000000000)), _] = _
      rw [e]
    · rintro σ H' ⟨y, rfl, rfl⟩
      refine ⟨_, rfl, ?_⟩
      rw [tP_ten]
      exact q
def spNumber (K : PySem.W.Frag) : Sp := fun vs H Q _ => ∃ (a p : Addr) (ns : List Int), vs = [.ref p] ∧ StL K H a p ns ∧ ∀ H' n, Keep p H H' → StL K H' a p ns → n.natAbs < big → Q (.int n) H'
theorem hun_lt {n i : Nat} (h : n < 100000000000000000000 ^ (i + 1)) (hi : i ≤ 15) : n < 2 ^ 1100 :=
  Nat.lt_of_lt_of_le h (Nat.le_trans (Nat.pow_le_pow_right (by decide) (show i + 1 ≤ 16 by omega)) (by decide +kernel))
theorem hun_step {n d i : Nat} (h : n < 100000000000000000000 ^ (i + 1)) (hd : d < 100000000000000000000) : n * 100000000000000000000 + d < 100000000000000000000 ^ (i + 1 + 1) := by
  rw [Nat.pow_succ]
  have : (n + 1) * 100000000000000000000 ≤ 100000000000000000000 ^ (i + 1) * 100000000000000000000 := Nat.mul_le_mul_right _ h
  omega
theorem ok_law_number (L : Lib P K mg A) : FnOk P w K mg base CX0 3 L.law_number.f L.law_number.fd ["state"] (spNumber K) := by
  have G_law_draw : FnOk P w K mg base CX0 2 L.law_draw.f L.law_draw.fd ["state", "many"] (spDraw K) := ok_law_draw L
  have G_law_greatest : FnOk P w K mg base CX0 1 L.law_greatest.f L.law_greatest.fd [] spGreatest := ok_law_greatest L
  refine L.law_number.F.ok sc_law_number (fun vs H Q E h => ?_) (fun cdv A' outer s H vs Q E hr h => ?_)
  · obtain ⟨a, p, ns, rfl, _⟩ := h
    rfl
  · obtain ⟨a, p, ns, rfl, st, q⟩ := h
    refine ⟨_, (pss_cons (ps_set (i := 1) sc_law_number.nd rfl (.inl rfl) (pe_call G_law_draw (hr.mono (by omega)) (by rfl) L.law_draw.g L.law_draw.F.kp L.law_draw.b .nil pass0 (pa_cons (pv 0) (pa_cons pe_int pa_nil))))
      (pss_cons (ps_set (i := 2) sc_law_number.nd rfl (.inl rfl) (pe_call G_law_draw (hr.mono (by omega)) (by rfl) L.law_draw.g L.law_draw.F.kp L.law_draw.b .nil pass0 (pa_cons (pv 0) (pa_cons pe_int pa_nil))))
      (pss_cut (ps_if (pt_cmpR op_eq (pv 2) pe_int (nomark _))
        (pss_one (ps_set (i := 1) sc_law_number.nd rfl (.inl rfl) (pe_call G_law_draw (hr.mono (by omega)) (by rfl) L.law_draw.g L.law_draw.F.kp L.law_draw.b .nil pass0 (pa_cons (pv 0) (pa_cons pe_int pa_nil)))))
        (pss_one (ps_if (pt_cmpR op_eq (pv 2) pe_int (nomark _))
        (pss_cons (ps_for PassesOwn.never rfl (pi_range1 (by rfl) L.z_range (pa_cons (pe_op op_add pe_int (pe_call G_law_draw (hr.mono (by omega)) (by rfl) L.law_draw.g L.law_draw.F.kp L.law_draw.b .nil pass0 (pa_cons (pv 0) (pa_cons pe_int pa_nil)))) pa_nil)) (pg_name (i := 3) sc_law_number.nd rfl (.inl rfl))
        (pss_one (ps_set (i := 1) sc_law_number.nd rfl (.inl rfl) (pe_op op_add (pe_op op_mulW (pv 1) pe_int) (pe_call G_law_draw (hr.mono (by omega)) (by rfl) L.law_draw.g L.law_draw.F.kp L.law_draw.b .nil pass0 (pa_cons (pv 0) (pa_cons pe_int pa_nil)))))))
      (pss_one (ps_set (i := 1) sc_law_number.nd rfl (.inl rfl) (pe_op op_mod (pe_callTy call_int1 (by rfl) L.z_int (by decide +kernel) (pa_cons (pv 1) pa_nil)) (pe_call0 G_law_greatest (hr.mono (by omega)) (by rfl) L.law_greatest.g L.law_greatest.F.kp L.law_greatest.b .nil pass0)))))
        (pss_one (ps_if (pt_cmpR op_eq (pv 2) pe_int (nomark _))
        (pss_one (ps_set (i := 1) sc_law_number.nd rfl (.inl rfl) (pe_op op_sub (pe_op op_sub (pe_call0 G_law_greatest (hr.mono (by omega)) (by rfl) L.law_greatest.g L.law_greatest.F.kp L.law_greatest.b .nil pass0) pe_int) (pv 1))))
        pss_nil)))))
      (pss_cut (ps_if (pt_cmpR op_eq (pe_call G_law_draw (hr.mono (by omega)) (by rfl) L.law_draw.g L.law_draw.F.kp L.law_draw.b .nil pass0 (pa_cons (pv 0) (pa_cons pe_int pa_nil))) pe_int (nomark _))
        (pss_one (ps_set (i := 1) sc_law_number.nd rfl (.inl rfl) (pe_un un_neg (pv 1))))
        pss_nil)
      (pss_one (ps_ret (pv 1))))))), ?_⟩
    refine ⟨_, rfl, a, p, ns, 40, rfl, st, by decide, by decide, fun H1 n0 k1 st1 n0l n0h => ?_⟩
    refine ⟨_, rfl, a, p, ns, 5, rfl, st1, by decide, by decide, fun H2 kind k2 st2 _ _ => ?_⟩
    have k12 := k1.trans k2
    let M : List (Option V) → Hp → Prop := fun σ' H' => ∃ (n : Int) (y3 : Option V), σ' = [some (.ref p), some (.int n), some (.int kind), y3] ∧ Keep p H H' ∧ StL K H' a p ns ∧ n.natAbs < big
    have sb : ∀ {n : Int}, 0 ≤ n → n < 1000000000000000000000000000000 → n.natAbs < big := fun h0 h1 => small_big (by omega)
    have b4 : (1000 : Nat) < big := small_big (by decide)
    refine ⟨M, ⟨_, rfl, rfl, _, rfl, ite2 (fun _ => ?_) (fun _ => ⟨_, rfl, rfl, _, rfl, ite2 (fun _ => ?_) (fun _ => ⟨_, rfl, rfl, _, rfl, ite2 (fun _ => ?_) (fun _ => ?_)⟩)⟩)⟩, ?_⟩
    · exact ⟨_, rfl, a, p, ns, 1000000000, rfl, st2, by decide, by decide, fun H3 d k3 st3 dl dh => ⟨_, _, rfl, k12.trans k3, st3, sb dl (by omega)⟩⟩
    · refine ⟨_, rfl, a, p, ns, 15, rfl, st2, by decide, by decide, fun H3 c k3 st3 cl ch => ?_⟩
      refine ⟨_, _, rfl, rfl, 1 + c, rfl, by omega, by omega, for_range (n := (1 + c).toNat) (fun i σ H' => ∃ (n : Nat) (y3 : Option V), σ = [some (.ref p), some (.int n), some (.int kind), y3] ∧ Keep p H H' ∧ StL K H' a p ns ∧ n < 100000000000000000000 ^ (i + 1)) ⟨n0.toNat, none, ?_, k12.trans k3, st3, by omega⟩ ?_ ?_⟩
      · rw [show ((n0.toNat : Nat) : Int) = n0 by omega]
        rfl
      · rintro i σ H' hi ⟨n, y3, rfl, k4, st4, hn⟩
        refine ⟨_, rfl, _, _, rfl, rfl, wide_mul (a := 1100) (b := 100) (by have := hun_lt hn (by omega); omega) (by decide +kernel) (by decide) (by decide) (by decide), _, rfl, a, p, ns, 100000000000000000000, rfl, st4, by decide, by decide +kernel, fun H5 d k5 st5 dl dh => ?_⟩
        refine ⟨_, _, rfl, rfl, n * 100000000000000000000 + d.toNat, some (.int (0 + i)), ?_, k4.trans k5, st5, hun_step hn (by omega)⟩
        rw [show ((n * 100000000000000000000 + d.toNat : Nat) : Int) = (n : Int) * 100000000000000000000 + d by omega]
        rfl
      · rintro σ H' ⟨n, y3, rfl, k4, st4, hn⟩
        refine ⟨_, rfl, .inl ⟨_, rfl, rfl, _, _, rfl, rfl, (by show (0 : Int) < big; omega), _, _, rfl, k4, st4, ?_⟩⟩
        have hb : (0 : Int) < big := by omega
        have e1 := Int.emod_nonneg (n : Int) (show (big : Int) ≠ 0 by omega)
        have e2 := Int.emod_lt_of_pos (n : Int) hb
        omega
    · exact ⟨rfl, _, _, rfl, rfl, _, rfl, _, _, rfl, rfl, _, _, rfl, k12, st2, by omega⟩
    · exact ⟨_, _, rfl, k12, st2, sb n0l (by omega)⟩
    rintro σ' H3 ⟨n, y3, rfl, k3, st3, hn⟩
    let M2 : List (Option V) → Hp → Prop := fun σ' H' => ∃ (n : Int), σ' = [some (.ref p), some (.int n), some (.int kind), y3] ∧ Keep p H H' ∧ StL K H' a p ns ∧ n.natAbs < big
    refine ⟨M2, ⟨_, rfl, a, p, ns, 3, rfl, st3, by decide, by decide, fun H4 d k4 st4 _ _ => ⟨rfl, _, rfl, ite2 (fun _ => ⟨_, rfl, _, rfl, -n, rfl, k3.trans k4, st4, by omega⟩) (fun _ => ⟨n, rfl, k3.trans k4, st4, hn⟩)⟩⟩, ?_⟩
    rintro σ' H4 ⟨n', rfl, k4, st4, hn'⟩
    exact ⟨_, rfl, q _ _ k4 st4 hn'⟩
def spIsInteger : Sp := fun vs H Q _ => ∃ i : Int, vs = [.int i] ∧ Q (.bl true) H
theorem ok_law_is_integer (L : Lib P K mg A) : FnOk P w K mg base CX0 1 L.law_is_integer.f L.law_is_integer.fd ["told"] spIsInteger := by
  refine L.law_is_integer.F.ok sc_law_is_integer (fun vs H Q E h => ?_) (fun cdv A' outer s H vs Q E hr h => ?_)
  · obtain ⟨i, rfl, _⟩ := h
    rfl
  · obtain ⟨i, rfl, q⟩ := h
    refine ⟨_, (pss_one (ps_ret (pe_and (pe_callB call_isi (by rfl) L.z_isinstance (by decide +kernel) (pa_cons (pv 0) (pa_cons (pe_bltn (v := .ty "int") (by rfl) L.z_int (by decide +kernel) rfl) pa_nil))) (pe_one (pe_not (pe_callB call_isi (by rfl) L.z_isinstance (by decide +kernel) (pa_cons (pv 0) (pa_cons (pe_bltn (v := .ty "bool") (by rfl) L.z_bool (by decide +kernel) rfl) pa_nil)))))))), ?_⟩
    refine ⟨_, rfl, _, .ty "int", _, _, true, rfl, .ty _, .base (.int _), kit_ty (show kitB "int" "int" = some true by decide +kernel), _, rfl, iteT ?_⟩
    exact ⟨_, rfl, _, .ty "bool", _, _, false, rfl, .ty _, .base (.int _), kit_ty (show kitB "int" "bool" = some false by decide +kernel), _, rfl, q⟩
theorem ss_dp {H : Hp} {p : Addr} {x y : Str} (h : H p = some (.tup [.str x, .str y])) : Dp K H (.ref p) (.tuple [.str x, .str y]) := .tup (.inl (.inl h)) (.cons (.str _) (.cons (.str _) .nil))
theorem si_dp {H : Hp} {p : Addr} {x : Str} {i : Int} (h : H p = some (.tup [.str x, .int i])) : Dp K H (.ref p) (.tuple [.str x, .int i]) := .tup (.inl (.inl h)) (.cons (.str _) (.cons (.int _) .nil))
theorem ss_shape {x y : Str} (hx : PyData.strOk x = true) (hy : PyData.strOk y = true) : SeqAt.shaped (.tuple [.str x, .str y]) = true := by
  simp [SeqAt.shaped, PyData.canLay0, PyData.canLayAll0, PyData.depth, PyData.depthAll, hx, hy]
theorem eqv_str (a b : Str) : PyData.eqv (.str a) (.str b) = decide (a = b) := by
  unfold PyData.eqv
  by_cases h : a = b
  · subst h; simp
  · simp [h]
theorem eqv_ss (a b c d : Str) : PyData.eqv (.tuple [.str a, .str b]) (.tuple [.str c, .str d]) = (decide (a = c) && decide (b = d)) := by
  rw [show PyData.eqv (.tuple [.str a, .str b]) (.tuple [.str c, .str d]) = PyData.eqvAll [.str a, .str b] [.str c, .str d] by unfold PyData.eqv; rfl]
  simp only [PyData.eqvAll, eqv_str, Bool.and_true]
/-- told == (k, m), both texts alike -/
theorem same_ss {H : Hp} {p r : Addr} {k m : Str} {Q : VK} (hk : PyData.strOk k = true) (hm : PyData.strOk m = true) (h1 : H p = some (.tup [.str k, .str m])) (h2 : H r = some (.tup [.str k, .str m])) (q : Q (.bl true) H) : rEqD K (.ref p) (.ref r) H Q := by
  refine ⟨_, _, ss_dp h1, ss_dp h2, ss_shape hk hm, ss_shape hk hm, ?_⟩
  rw [eqv_ss, decide_eq_true rfl, decide_eq_true rfl]
  exact q
def spOne (n : Nat) : Sp := fun vs H Q _ => ∃ a : Int, vs = [.int a] ∧ a.natAbs < big ∧ ∀ H', Same H H' → Q (.bl true) H'
theorem ok_law_root (L : Lib P K mg A) (Z : Mth mg) (D : Fd w L) : FnOk P w K mg base CX0 10 L.law_root.f L.law_root.fd ["a"] (spOne 1) := by
  have G_law_call : FnOk P w K mg base CX0 9 L.law_call.f L.law_call.fd ["name", "values"] (spCall K A) := ok_law_call L Z D
  have G_law_is_integer : FnOk P w K mg base CX0 1 L.law_is_integer.f L.law_is_integer.fd ["told"] spIsInteger := ok_law_is_integer L
  refine L.law_root.F.ok sc_law_root (fun vs H Q E h => ?_) (fun cdv A' outer s H vs Q E hr h => ?_)
  · obtain ⟨a, rfl, _⟩ := h
    rfl
  · obtain ⟨a, rfl, ha, q⟩ := h
    refine ⟨_, (pss_cons (ps_set (i := 1) sc_law_root.nd rfl (.inl rfl) (pe_call G_law_call (hr.mono (by omega)) (by rfl) L.law_call.g L.law_call.F.kp L.law_call.b .nil pass0 (pa_cons pe_str (pa_cons (pe_lst (pa_cons (pv 0) pa_nil)) pa_nil))))
      (pss_cons (ps_if (pt_cmpR op_lt (pv 0) pe_int (nomark _))
        (pss_one (ps_ret (pe_cmpR (op_eqD (units64 hr)) (pv 1) (pe_tup (pa_cons pe_str (pa_cons pe_str pa_nil))) (nomark _))))
        pss_nil)
      (pss_cons (ps_if (PW.pt (pw_or (pt_cmpR op_ne (pe_ix ix_tup (pv 1) pe_int (fun _ _ => rfl)) pe_str (nomark _)) (pw_or (pt_not (pt_val (pe_call G_law_is_integer (hr.mono (by omega)) (by rfl) L.law_is_integer.g L.law_is_integer.F.kp L.law_is_integer.b .nil pass0 (pa_cons (pe_ix ix_tup (pv 1) pe_int (fun _ _ => rfl)) pa_nil)))) (pw_or1 (pt_cmpR op_lt (pe_ix ix_tup (pv 1) pe_int (fun _ _ => rfl)) pe_int (nomark _))))))
        (pss_one (ps_ret pe_bl))
        pss_nil)
      (pss_one (ps_ret (pe_chain op_le op_lt (pe_op op_mulW (pe_ix ix_tup (pv 1) pe_int (fun _ _ => rfl)) (pe_ix ix_tup (pv 1) pe_int (fun _ _ => rfl))) (pv 0) (pe_op op_mulW (pe_op op_add (pe_ix ix_tup (pv 1) pe_int (fun _ _ => rfl)) pe_int) (pe_op op_add (pe_ix ix_tup (pv 1) pe_int (fun _ _ => rfl)) pe_int)))))))), ?_⟩
    refine ⟨_, rfl, (by show 1 ≤ sizeLine; decide), fun l hl => ⟨l, .sqrt a, rfl, SqL.of upd_same, fun H1 s1 => ?_⟩⟩
    have s01 := (same_upd hl).trans s1
    refine ⟨ha, fun h0 => tE_err fun t H2 s2 ht => ?_, fun h0 H2 t s2 ht => ?_⟩
    · have s02 := s01.trans s2
      refine ⟨_, rfl, _, _, rfl, rfl, _, rfl, ?_⟩
      rw [decide_eq_true h0]
      refine iteT ⟨_, rfl, (by show 2 ≤ sizeLine; decide), fun t2 ht2 => ?_⟩
      refine same_ss (by decide +kernel) (by decide +kernel) ((same_upd ht2) _ _ upd_same) upd_same (q _ ((s02.trans (same_upd ht)).trans (same_upd ht2)))
    · have s02 := s01.trans s2
      obtain ⟨k1, k2⟩ := sqr_ok a.toNat
      have ht2 : upd H2 t (.tup [.str "told", .int ((sqr a.toNat : Nat) : Int)]) t = some (.tup [.str "told", .int ((sqr a.toNat : Nat) : Int)]) := upd_same
      have s03 := s02.trans (same_upd (o := .tup [.str "told", .int ((sqr a.toNat : Nat) : Int)]) ht)
      generalize upd H2 t (.tup [.str "told", .int ((sqr a.toNat : Nat) : Int)]) = H3 at ht2 s03
      generalize hk : sqr a.toNat = k at k1 k2 ht2
      refine ⟨_, rfl, _, _, rfl, rfl, _, rfl, ?_⟩
      rw [decide_eq_false (by omega)]
      refine iteF ?_
      have tq := SqT.of ht2 (K := K)
      refine ⟨_, rfl, t, _, _, .str "told", rfl, rfl, tq, atI_nat (j := 0) rfl, rfl, _, rfl, ite2 (fun z => absurd z (by decide +kernel)) (fun _ => ?_)⟩
      refine ⟨_, rfl, t, _, _, .int k, rfl, rfl, tq, atI_nat (j := 1) rfl, k, rfl, _, rfl, iteF ?_⟩
      refine ⟨_, rfl, t, _, _, .int k, rfl, rfl, tq, atI_nat (j := 1) rfl, _, _, rfl, rfl, _, rfl, ?_⟩
      rw [decide_eq_false (by omega)]
      refine iteF ?_
      have kb : k < 2 ^ 997 := by
        have h1 : k ≤ k * k := Nat.le_mul_self k
        have h2 := Nat.lt_trans ha big_bits
        omega
      have kb2 : k + 1 < 2 ^ 998 := by
        have h3 : (2 : Nat) ^ 998 = 2 ^ 997 * 2 := Nat.pow_succ ..
        omega
      have z1 : (k : Int) * (k : Int) ≤ a := by
        rw [← Int.natCast_mul]
        omega
      have z2 : a < ((k : Int) + 1) * ((k : Int) + 1) := by
        have e : ((k : Int) + 1) * ((k : Int) + 1) = (((k + 1) * (k + 1) : Nat) : Int) := by rw [Int.natCast_mul]; rfl
        rw [e]
        omega
      refine ⟨_, rfl, t, _, _, .int k, rfl, rfl, tq, atI_nat (j := 1) rfl, _, rfl, t, _, _, .int k, rfl, rfl, tq, atI_nat (j := 1) rfl, _, _, rfl, rfl, wide_mul (a := 997) (b := 997) kb kb (by decide) (by decide) (by decide), _, rfl, _, _, rfl, rfl, _, rfl, ?_⟩
      rw [decide_eq_true z1]
      refine iteT ⟨_, rfl, t, _, _, .int k, rfl, rfl, tq, atI_nat (j := 1) rfl, _, _, rfl, rfl, _, rfl, t, _, _, .int k, rfl, rfl, tq, atI_nat (j := 1) rfl, _, _, rfl, rfl, _, _, rfl, rfl, wide_mul (a := 998) (b := 998) (by omega) (by omega) (by decide) (by decide) (by decide), _, _, rfl, rfl, ?_⟩
      show Q (.bl (decide (a < ((k : Int) + 1) * ((k : Int) + 1)))) H3
      rw [decide_eq_true z2]
      exact q _ s03
def spTwoI : Sp := fun vs H Q _ => ∃ a b : Int, vs = [.int a, .int b] ∧ a.natAbs < big ∧ b.natAbs < big ∧ ∀ H', Same H H' → Q (.bl true) H'
theorem eu_step {X Y i : Nat} (h0 : Y ≠ 0) (h : if i = 0 then X * Y < 2 ^ 1994 else Y < X ∧ X * Y * 2 ^ (i - 1) < 2 ^ 1994) : X % Y < Y ∧ Y * (X % Y) * 2 ^ (i + 1 - 1) < 2 ^ 1994 := by
  have m1 : X % Y < Y := Nat.mod_lt _ (by omega)
  refine ⟨m1, ?_⟩
  by_cases hi : i = 0
  · rw [if_pos hi] at h
    subst hi
    have m2 : X % Y ≤ X := Nat.mod_le X Y
    show Y * (X % Y) * 1 < _
    rw [Nat.mul_one, Nat.mul_comm]
    exact Nat.lt_of_le_of_lt (Nat.mul_le_mul_right _ m2) h
  · rw [if_neg hi] at h
    obtain ⟨h1, h2⟩ := h
    have m3 : 2 * (X % Y) ≤ X := by
      have d := Nat.div_add_mod X Y
      have d1 : 1 ≤ X / Y := (Nat.one_le_div_iff (by omega)).mpr (by omega)
      have d2 : Y * 1 ≤ Y * (X / Y) := Nat.mul_le_mul_left _ d1
      omega
    obtain ⟨j, rfl⟩ : ∃ j, i = j + 1 := ⟨i - 1, by omega⟩
    rw [show j + 1 - 1 = j by omega] at h2
    show Y * (X % Y) * 2 ^ (j + 1) < _
    refine Nat.lt_of_le_of_lt ?_ h2
    rw [Nat.pow_succ, Nat.mul_comm (2 ^ j) 2, ← Nat.mul_assoc]
    refine Nat.mul_le_mul_right _ ?_
    rw [Nat.mul_assoc, Nat.mul_comm (X % Y) 2, Nat.mul_comm X Y]
    exact Nat.mul_le_mul_left _ m3
theorem absI_nat (a : Int) : (if a < 0 then -a else a) = ((a.natAbs : Nat) : Int) := by split <;> omega
theorem ok_law_divisor (L : Lib P K mg A) (Z : Mth mg) (D : Fd w L) : FnOk P w K mg base CX0 10 L.law_divisor.f L.law_divisor.fd ["a", "b"] spTwoI := by
  have G_law_call : FnOk P w K mg base CX0 9 L.law_call.f L.law_call.fd ["name", "values"] (spCall K A) := ok_law_call L Z D
  have G_law_is_integer : FnOk P w K mg base CX0 1 L.law_is_integer.f L.law_is_integer.fd ["told"] spIsInteger := ok_law_is_integer L
  refine L.law_divisor.F.ok sc_law_divisor (fun vs H Q E h => ?_) (fun cdv A' outer s H vs Q E hr h => ?_)
  · obtain ⟨a, b, rfl, _⟩ := h
    rfl
  · obtain ⟨a, b, rfl, ha, hb, q⟩ := h
    refine ⟨_, (pss_cons (ps_set (i := 2) sc_law_divisor.nd rfl (.inl rfl) (pe_call G_law_call (hr.mono (by omega)) (by rfl) L.law_call.g L.law_call.F.kp L.law_call.b .nil pass0 (pa_cons pe_str (pa_cons (pe_lst (pa_cons (pv 0) (pa_cons (pv 1) pa_nil))) pa_nil))))
      (pss_cons (ps_set (i := 3) sc_law_divisor.nd rfl (.inl rfl) (pe_callB call_abs (by rfl) L.z_abs (by decide +kernel) (pa_cons (pv 0) pa_nil)))
      (pss_cons (ps_set (i := 4) sc_law_divisor.nd rfl (.inl rfl) (pe_callB call_abs (by rfl) L.z_abs (by decide +kernel) (pa_cons (pv 1) pa_nil)))
      (pss_cons (ps_for PassesOwn.never rfl (pi_range1 (by rfl) L.z_range (pa_cons pe_int pa_nil)) (pg_name (i := 5) sc_law_divisor.nd rfl (.inl rfl))
        (pss_cons (ps_if (pt_cmpR op_eq (pv 4) pe_int (nomark _))
        (pss_one ps_break)
        pss_nil)
      (pss_cons (ps_set (i := 6) sc_law_divisor.nd rfl (.inl rfl) (pe_op op_sub (pv 3) (pe_op op_mulW (pe_op op_fdivW (pv 3) (pv 4)) (pv 4))))
      (pss_cons (ps_set (i := 3) sc_law_divisor.nd rfl (.inl rfl) (pv 4))
      (pss_one (ps_set (i := 4) sc_law_divisor.nd rfl (.inl rfl) (pv 6)))))))
      (pss_one (ps_ret (pe_and (pe_cmpR op_eq (pe_ix ix_tup (pv 2) pe_int (fun _ _ => rfl)) pe_str (nomark _)) (pe_and (pe_call G_law_is_integer (hr.mono (by omega)) (by rfl) L.law_is_integer.g L.law_is_integer.F.kp L.law_is_integer.b .nil pass0 (pa_cons (pe_ix ix_tup (pv 2) pe_int (fun _ _ => rfl)) pa_nil)) (pe_one (pe_cmpR op_eq (pe_ix ix_tup (pv 2) pe_int (fun _ _ => rfl)) (pv 3) (nomark _))))))))))), ?_⟩
    refine ⟨_, rfl, _, rfl, (by show 2 ≤ sizeLine; decide), fun l hl => ⟨l, .gcd a b, rfl, SqL.of upd_same, fun H1 s1 => ?_⟩⟩
    have s01 := (same_upd hl).trans s1
    intro H2 t s2 ht
    have s02 := s01.trans s2
    have ht2 : upd H2 t (.tup [.str "told", .int ((Nat.gcd a.natAbs b.natAbs : Nat) : Int)]) t = some (.tup [.str "told", .int ((Nat.gcd a.natAbs b.natAbs : Nat) : Int)]) := upd_same
    have s03 := s02.trans (same_upd (o := .tup [.str "told", .int ((Nat.gcd a.natAbs b.natAbs : Nat) : Int)]) ht)
    generalize upd H2 t (.tup [.str "told", .int ((Nat.gcd a.natAbs b.natAbs : Nat) : Int)]) = H3 at ht2 s03
    generalize hg : Nat.gcd a.natAbs b.natAbs = g at ht2
    have tq := SqT.of ht2 (K := K)
    have ab := Nat.lt_trans ha big_bits
    have bb := Nat.lt_trans hb big_bits
    refine ⟨_, rfl, a, rfl, _, rfl, b, rfl, ?_⟩
    refine ⟨3000, rfl, by decide, by decide, for_range (n := 3000) (fun i σ H' => ∃ (X Y : Nat) (yk yr : Option V), σ = [some (.int a), some (.int b), some (.ref t), some (.int X), some (.int Y), yk, yr] ∧ H' = H3 ∧ Nat.gcd X Y = g ∧ X < 2 ^ 997 ∧ Y < 2 ^ 997 ∧ (if i = 0 then X * Y < 2 ^ 1994 else Y < X ∧ X * Y * 2 ^ (i - 1) < 2 ^ 1994)) ⟨a.natAbs, b.natAbs, none, none, ?_, rfl, hg, ab, bb, ?_⟩ ?_ ?_⟩
    · show [some (V.int a), some (V.int b), some (V.ref t), some (V.int (if a < 0 then -a else a)), some (V.int (if b < 0 then -b else b)), none, none] = _
      rw [absI_nat, absI_nat]
    · rw [if_pos rfl]
      have := Nat.mul_lt_mul'' ab bb
      rw [← Nat.pow_add] at this
      exact this
    · rintro i σ H' hi ⟨X, Y, yk, yr, rfl, rfl, e, hX, hY, hp⟩
      refine ⟨_, rfl, rfl, _, rfl, ite2 (fun z => ?_) (fun z => ?_)⟩
      · have y0 : Y = 0 := by
          have := V.int.inj (of_decide_eq_true z)
          omega
        subst y0
        rw [Nat.gcd_zero_right] at e
        subst e
        refine ⟨_, rfl, t, _, _, .str "told", rfl, rfl, tq, atI_nat (j := 0) rfl, rfl, _, rfl, ite2 (fun _ => ?_) (fun z => absurd rfl (nd z))⟩
        refine ⟨_, rfl, t, _, _, .int ((X : Nat)), rfl, rfl, tq, atI_nat (j := 1) rfl, _, rfl, _, rfl, iteT ?_⟩
        refine ⟨_, rfl, t, _, _, .int ((X : Nat)), rfl, rfl, tq, atI_nat (j := 1) rfl, _, rfl, rfl, ?_⟩
        show Q (.bl (decide (V.int ((X : Nat)) = V.int ((X : Nat))))) _
        rw [decide_eq_true rfl]
        exact q _ s03
      · have y0 : Y ≠ 0 := fun h => nd z (by rw [h]; rfl)
        obtain ⟨m1, m2⟩ := eu_step y0 hp
        have yp : (0 : Int) < (Y : Int) := by omega
        have e1 : (X : Int) - (X : Int) / (Y : Int) * (Y : Int) = ((X % Y : Nat) : Int) := by
          have h1 := Int.emod_add_mul_ediv (X : Int) (Y : Int)
          rw [Int.mul_comm (Y : Int)] at h1
          rw [Int.natCast_emod]
          omega
        have hq : ((X : Int) / (Y : Int)).natAbs < 2 ^ 997 := by
          rw [← Int.natCast_ediv, Int.natAbs_natCast]
          exact Nat.lt_of_le_of_lt (Nat.div_le_self X Y) hX
        refine ⟨_, rfl, _, rfl, _, rfl, _, _, rfl, rfl, wide_div yp (b := 997) hY (by decide) (by decide), _, rfl, _, _, rfl, rfl, wide_mul (a := 997) (b := 997) hq hY (by decide) (by decide) (by decide), _, _, rfl, rfl, ?_⟩
        refine ⟨_, rfl, _, rfl, Y, X % Y, some (.int (0 + i)), some (.int ((X : Int) - (X : Int) / (Y : Int) * (Y : Int))), ?_, rfl, ?_, hY, Nat.lt_trans m1 hY, ?_⟩
        · rw [← e1]
          rfl
        · rw [Nat.gcd_comm, ← Nat.gcd_rec, Nat.gcd_comm]
          exact e
        · rw [if_neg (by omega)]
          exact ⟨m1, m2⟩
    · rintro σ H' ⟨X, Y, yk, yr, rfl, rfl, e, hX, hY, hp⟩
      rw [if_neg (by decide)] at hp
      have y0 : Y = 0 := by
        rcases Nat.eq_zero_or_pos Y with z | z
        · exact z
        · exfalso
          have h1 : 1 * 2 ^ 2999 ≤ X * Y * 2 ^ 2999 := Nat.mul_le_mul_right _ (Nat.mul_pos (by omega) z)
          have h2 : (2 : Nat) ^ 1994 ≤ 2 ^ 2999 := Nat.pow_le_pow_right (by decide) (by decide)
          have h3 := hp.2
          rw [show 3000 - 1 = 2999 from rfl] at h3
          omega
      subst y0
      rw [Nat.gcd_zero_right] at e
      subst e
      refine ⟨_, rfl, t, _, _, .str "told", rfl, rfl, tq, atI_nat (j := 0) rfl, rfl, _, rfl, ite2 (fun _ => ?_) (fun z => absurd rfl (nd z))⟩
      refine ⟨_, rfl, t, _, _, .int ((X : Nat)), rfl, rfl, tq, atI_nat (j := 1) rfl, _, rfl, _, rfl, iteT ?_⟩
      refine ⟨_, rfl, t, _, _, .int ((X : Nat)), rfl, rfl, tq, atI_nat (j := 1) rfl, _, rfl, rfl, ?_⟩
      show Q (.bl (decide (V.int ((X : Nat)) = V.int ((X : Nat))))) _
      rw [decide_eq_true rfl]
      exact q _ s03
theorem in3' (a : Int) : inV (.int a) [.int 0, .int 1, .int (-1)] = true ↔ (a = -1 ∨ a = 0 ∨ a = 1) := by
  simp only [inV, List.any_cons, List.any_nil, Bool.or_eq_true, Bool.or_false]
  show (decide ((0 : Int) = a) = true ∨ decide ((1 : Int) = a) = true ∨ decide ((-1 : Int) = a) = true) ↔ _
  simp only [decide_eq_true_eq]
  omega
def spPower : Sp := fun vs H Q _ => ∃ a b : Int, vs = [.int a, .int b] ∧ a.natAbs < big ∧ b ≤ 1200 ∧ ∀ H', Same H H' → Q (.bl true) H'
theorem ok_law_power (L : Lib P K mg A) (Z : Mth mg) (D : Fd w L) : FnOk P w K mg base CX0 10 L.law_power.f L.law_power.fd ["a", "b"] spPower := by
  have G_law_call : FnOk P w K mg base CX0 9 L.law_call.f L.law_call.fd ["name", "values"] (spCall K A) := ok_law_call L Z D
  have G_law_is_integer : FnOk P w K mg base CX0 1 L.law_is_integer.f L.law_is_integer.fd ["told"] spIsInteger := ok_law_is_integer L
  have G_law_greatest : FnOk P w K mg base CX0 1 L.law_greatest.f L.law_greatest.fd [] spGreatest := ok_law_greatest L
  refine L.law_power.F.ok sc_law_power (fun vs H Q E h => ?_) (fun cdv A' outer s H vs Q E hr h => ?_)
  · obtain ⟨a, b, rfl, _⟩ := h
    rfl
  · obtain ⟨a, b, rfl, ha, hb, q⟩ := h
    refine ⟨_, (pss_cons (ps_set (i := 2) sc_law_power.nd rfl (.inl rfl) (pe_call G_law_call (hr.mono (by omega)) (by rfl) L.law_call.g L.law_call.F.kp L.law_call.b .nil pass0 (pa_cons pe_str (pa_cons (pe_lst (pa_cons (pv 0) (pa_cons (pv 1) pa_nil))) pa_nil))))
      (pss_cons (ps_if (pt_cmpR op_lt (pv 1) pe_int (nomark _))
        (pss_one (ps_ret (pe_cmpR (op_eqD (units64 hr)) (pv 2) (pe_tup (pa_cons pe_str (pa_cons pe_str pa_nil))) (nomark _))))
        pss_nil)
      (pss_cons (ps_if (pt_cmpR op_in_seq (pv 0) (pe_tup (pa_cons pe_int (pa_cons pe_int (pa_cons (pe_un un_neg pe_int) pa_nil)))) (by rfl))
        (pss_cons (ps_set (i := 3) sc_law_power.nd rfl (.inl rfl) pe_int)
      (pss_cut (ps_if (pt_cmpR op_gt (pv 1) pe_int (nomark _))
        (pss_cons (ps_set (i := 3) sc_law_power.nd rfl (.inl rfl) (pv 0))
      (pss_one (ps_if (PW.pt (pw_and (pt_cmpR op_eq (pv 0) (pe_un un_neg pe_int) (nomark _)) (pw_and1 (pt_cmpR op_eq (pe_op op_mul (pe_op op_fdiv (pv 1) pe_int) pe_int) (pv 1) (nomark _)))))
        (pss_one (ps_set (i := 3) sc_law_power.nd rfl (.inl rfl) pe_int))
        pss_nil)))
        pss_nil)
      (pss_one (ps_ret (pe_and (pe_cmpR op_eq (pe_ix ix_tup (pv 2) pe_int (fun _ _ => rfl)) pe_str (nomark _)) (pe_and (pe_call G_law_is_integer (hr.mono (by omega)) (by rfl) L.law_is_integer.g L.law_is_integer.F.kp L.law_is_integer.b .nil pass0 (pa_cons (pe_ix ix_tup (pv 2) pe_int (fun _ _ => rfl)) pa_nil)) (pe_one (pe_cmpR op_eq (pe_ix ix_tup (pv 2) pe_int (fun _ _ => rfl)) (pv 3) (nomark _)))))))))
        pss_nil)
      (pss_cons (ps_set (i := 3) sc_law_power.nd rfl (.inl rfl) pe_int)
      (pss_cons (ps_for PassesOwn.never rfl (pi_range1 (by rfl) L.z_range (pa_cons (pe_callB (call_min2 rfl) (by rfl) L.z_min (by decide +kernel) (pa_cons (pv 1) (pa_cons pe_int pa_nil))) pa_nil)) (pg_name (i := 4) sc_law_power.nd rfl (.inl rfl))
        (pss_cons (ps_set (i := 3) sc_law_power.nd rfl (.inl rfl) (pe_op op_mulW (pv 3) (pv 0)))
      (pss_one (ps_if (pt_cmpR op_ge (pe_callB call_abs (by rfl) L.z_abs (by decide +kernel) (pa_cons (pv 3) pa_nil)) (pe_call0 G_law_greatest (hr.mono (by omega)) (by rfl) L.law_greatest.g L.law_greatest.F.kp L.law_greatest.b .nil pass0) (nomark _))
        (pss_one (ps_ret (pe_cmpR (op_eqD (units64 hr)) (pv 2) (pe_tup (pa_cons pe_str (pa_cons pe_str pa_nil))) (nomark _))))
        pss_nil))))
      (pss_one (ps_ret (pe_and (pe_cmpR op_le (pv 1) pe_int (nomark _)) (pe_and (pe_cmpR op_eq (pe_ix ix_tup (pv 2) pe_int (fun _ _ => rfl)) pe_str (nomark _)) (pe_and (pe_call G_law_is_integer (hr.mono (by omega)) (by rfl) L.law_is_integer.g L.law_is_integer.F.kp L.law_is_integer.b .nil pass0 (pa_cons (pe_ix ix_tup (pv 2) pe_int (fun _ _ => rfl)) pa_nil)) (pe_one (pe_cmpR op_eq (pe_ix ix_tup (pv 2) pe_int (fun _ _ => rfl)) (pv 3) (nomark _))))))))))))), ?_⟩
    refine ⟨_, rfl, _, rfl, (by show 2 ≤ sizeLine; decide), fun l hl => ⟨l, .pow a b, rfl, SqL.of upd_same, fun H1 s1 => ?_⟩⟩
    have s01 := (same_upd hl).trans s1
    have b1 : (1 : Nat) < big := small_big (by decide)
    refine ⟨ha, by omega, fun h0 => tE_err fun t H2 s2 ht => ?_, fun h0 H2' s2' => ⟨fun hf H2 t s2 ht => ?_, fun hf => tE_err fun t H2 s2 ht => ?_⟩⟩
    · have s02 := s01.trans s2
      refine ⟨_, rfl, _, _, rfl, rfl, _, rfl, ?_⟩
      rw [decide_eq_true h0]
      refine iteT ⟨_, rfl, (by show 2 ≤ sizeLine; decide), fun t2 ht2 => ?_⟩
      exact same_ss (by decide +kernel) (by decide +kernel) ((same_upd ht2) _ _ upd_same) upd_same (q _ ((s02.trans (same_upd ht)).trans (same_upd ht2)))
    · obtain ⟨n, rfl⟩ : ∃ n : Nat, b = (n : Int) := ⟨b.toNat, by omega⟩
      rw [Int.toNat_natCast] at hf
      have s02 := (s01.trans s2').trans s2
      have ht2 : upd H2 t (.tup [.str "told", .int (a ^ (n : Int).toNat)]) t = some (.tup [.str "told", .int (a ^ n)]) := by rw [Int.toNat_natCast]; exact upd_same
      have s03 := s02.trans (same_upd (o := .tup [.str "told", .int (a ^ (n : Int).toNat)]) ht)
      generalize upd H2 t (.tup [.str "told", .int (a ^ (n : Int).toNat)]) = H3 at ht2 s03
      refine ⟨_, rfl, _, _, rfl, rfl, _, rfl, ?_⟩
      rw [decide_eq_false (by omega)]
      refine iteF ?_
      refine ⟨_, rfl, 1, rfl, (by show 3 ≤ sizeLine; decide), fun u hu => ?_⟩
      have s04 := s03.trans (same_upd (o := .tup [.int 0, .int 1, .int (-1)]) hu)
      have hu2 : upd H3 u (.tup [.int 0, .int 1, .int (-1)]) u = some (.tup [.int 0, .int 1, .int (-1)]) := upd_same
      have ht3 := (same_upd (o := .tup [.int 0, .int 1, .int (-1)]) hu) _ _ ht2
      generalize upd H3 u (.tup [.int 0, .int 1, .int (-1)]) = H4 at s04 hu2 ht3
      have tq := SqT.of ht3 (K := K)
      refine ⟨u, _, rfl, .inr (.inl (.inl hu2)), rfl, rfl, _, rfl, ite2 (fun h => ?_) (fun h => ?_)⟩
      · have h3 : a = -1 ∨ a = 0 ∨ a = 1 := (in3' a).mp h
        have ps := pow_small h3 n
        refine ⟨fun σ' H' => σ' = [some (.int a), some (.int n), some (.ref t), some (.int (a ^ n)), none] ∧ H' = H4, ?_, ?_⟩
        · refine ⟨_, rfl, _, _, rfl, rfl, _, rfl, ?_⟩
          by_cases hn : (n : Int) > 0
          · rw [decide_eq_true hn]
            rw [if_neg (by omega)] at ps
            refine iteT ⟨_, rfl, ?_⟩
            have fin : ∀ d : Int, a ^ n = d → [some (V.int a), some (V.int n), some (V.ref t), some (V.int d), none] = [some (V.int a), some (V.int n), some (V.ref t), some (V.int (a ^ n)), (none : Option V)] := fun d e => by rw [e]
            refine ⟨_, rfl, 1, rfl, rfl, _, rfl, ite2 (fun h => ?_) (fun h => ?_)⟩
            · have h5 : a = -1 := V.int.inj (of_decide_eq_true h)
              refine ⟨_, rfl, _, _, rfl, rfl, ⟨by decide, by decide⟩, _, _, rfl, rfl, .inr ⟨by decide, by decide⟩, _, rfl, rfl, _, rfl, ite2 (fun h6 => ?_) (fun h6 => ?_)⟩
              · have h7 : (n : Int) / 2 * 2 = n := V.int.inj (of_decide_eq_true h6)
                refine ⟨fin 1 ?_, rfl⟩
                rw [ps, if_neg (by omega), h5]
                rfl
              · have h7 : ¬ (n : Int) / 2 * 2 = n := fun z => nd h6 (congrArg V.int z)
                refine ⟨fin a ?_, rfl⟩
                rw [ps, if_pos (.inr (by omega))]
            · have h5 : a ≠ -1 := fun z => nd h (congrArg V.int z)
              refine ⟨fin a ?_, rfl⟩
              rw [ps, if_pos (.inl (by omega))]
          · rw [decide_eq_false hn]
            rw [if_pos (by omega)] at ps
            rw [ps]
            exact iteF ⟨rfl, rfl⟩
        · rintro σ' H5 ⟨rfl, rfl⟩
          refine ⟨_, rfl, t, _, _, .str "told", rfl, rfl, tq, atI_nat (j := 0) rfl, rfl, _, rfl, ite2 (fun _ => ?_) (fun z => absurd rfl (nd z))⟩
          refine ⟨_, rfl, t, _, _, .int (a ^ n), rfl, rfl, tq, atI_nat (j := 1) rfl, _, rfl, _, rfl, iteT ?_⟩
          refine ⟨_, rfl, t, _, _, .int (a ^ n), rfl, rfl, tq, atI_nat (j := 1) rfl, _, rfl, rfl, ?_⟩
          show Q (.bl (decide (V.int (a ^ n) = V.int (a ^ n)))) _
          rw [decide_eq_true rfl]
          exact q _ s04
      · have h3 : 2 ≤ a.natAbs := by
          have h3 : ¬ (a = -1 ∨ a = 0 ∨ a = 1) := fun z => h ((in3' a).mpr z)
          omega
        have hn : n ≤ 997 := by
          by_cases z : n ≤ 997
          · exact z
          · exfalso
            rw [Int.natAbs_pow] at hf
            have h4 : 2 ^ n ≤ a.natAbs ^ n := Nat.pow_le_pow_left h3 n
            have h5 : 2 ^ 997 ≤ 2 ^ n := Nat.pow_le_pow_right (by decide) (by omega)
            have := big_bits
            omega
        have hm : ((if (1000 : Int) < (n : Nat) then (1000 : Int) else ((n : Nat) : Int))).toNat = n := by rw [if_neg (by omega)]; omega
        refine ⟨_, rfl, _, _, rfl, _, rfl, by split <;> omega, by split <;> omega, for_range (n := ((if (1000 : Int) < (n : Nat) then (1000 : Int) else ((n : Nat) : Int))).toNat) (fun i σ H' => ∃ y : Option V, σ = [some (.int a), some (.int n), some (.ref t), some (.int (a ^ i)), y] ∧ H' = H4) ⟨none, by rw [Int.pow_zero]; rfl, rfl⟩ ?_ ?_⟩
        · rintro i σ H' hi ⟨y, rfl, rfl⟩
          rw [hm] at hi
          have fits : ∀ j, j ≤ n → (a ^ j).natAbs < big := fun j hj => by
            by_cases z : (a ^ j).natAbs < big
            · exact z
            · exact absurd hf (pow_step h3 hj z)
          refine ⟨_, rfl, _, rfl, _, _, rfl, rfl, wide_mul (Nat.lt_trans (fits i (by omega)) big_bits) (Nat.lt_trans ha big_bits) (by decide) (by decide) (by decide), ?_⟩
          refine ⟨_, rfl, _, rfl, rfl, _, _, rfl, rfl, _, rfl, ?_⟩
          have f2 := fits (i + 1) (by omega)
          rw [Int.pow_succ] at f2
          rw [decide_eq_false (by split <;> omega)]
          refine iteF ⟨some (.int (0 + i)), ?_, rfl⟩
          rw [Int.pow_succ]
          rfl
        · rintro σ H' ⟨y, rfl, rfl⟩
          rw [hm]
          refine ⟨_, rfl, _, _, rfl, rfl, _, rfl, ite2 (fun _ => ?_) (fun z => absurd (by omega : (n : Int) ≤ 1000) (nd z))⟩
          refine ⟨_, rfl, t, _, _, .str "told", rfl, rfl, tq, atI_nat (j := 0) rfl, rfl, _, rfl, ite2 (fun _ => ?_) (fun z => absurd rfl (nd z))⟩
          refine ⟨_, rfl, t, _, _, .int (a ^ n), rfl, rfl, tq, atI_nat (j := 1) rfl, _, rfl, _, rfl, iteT ?_⟩
          refine ⟨_, rfl, t, _, _, .int (a ^ n), rfl, rfl, tq, atI_nat (j := 1) rfl, _, rfl, rfl, ?_⟩
          show Q (.bl (decide (V.int (a ^ n) = V.int (a ^ n)))) _
          rw [decide_eq_true rfl]
          exact q _ s04
    · obtain ⟨n, rfl⟩ : ∃ n : Nat, b = (n : Int) := ⟨b.toNat, by omega⟩
      rw [Int.toNat_natCast] at hf
      have s02 := (s01.trans s2').trans s2
      have ht2 : upd H2 t (.tup [.str "OverflowError", .str "the integer is too large"]) t = some (.tup [.str "OverflowError", .str "the integer is too large"]) := upd_same
      have s03 := s02.trans (same_upd (o := .tup [.str "OverflowError", .str "the integer is too large"]) ht)
      generalize upd H2 t (.tup [.str "OverflowError", .str "the integer is too large"]) = H3 at ht2 s03
      refine ⟨_, rfl, _, _, rfl, rfl, _, rfl, ?_⟩
      rw [decide_eq_false (by omega)]
      refine iteF ?_
      refine ⟨_, rfl, 1, rfl, (by show 3 ≤ sizeLine; decide), fun u hu => ?_⟩
      have s04 := s03.trans (same_upd (o := .tup [.int 0, .int 1, .int (-1)]) hu)
      have hu2 : upd H3 u (.tup [.int 0, .int 1, .int (-1)]) u = some (.tup [.int 0, .int 1, .int (-1)]) := upd_same
      have ht3 := (same_upd (o := .tup [.int 0, .int 1, .int (-1)]) hu) _ _ ht2
      generalize upd H3 u (.tup [.int 0, .int 1, .int (-1)]) = H4 at s04 hu2 ht3
      have h3 : ¬ (a = -1 ∨ a = 0 ∨ a = 1) := fun z => hf (by
        rw [pow_small z]
        split
        · exact b1
        · split <;> omega)
      have h2 : 2 ≤ a.natAbs := by omega
      refine ⟨u, _, rfl, .inr (.inl (.inl hu2)), rfl, rfl, _, rfl, ite2 (fun h => absurd ((in3' a).mp h) h3) (fun h => ?_)⟩
      refine ⟨_, rfl, _, _, rfl, _, rfl, by split <;> omega, by split <;> omega, for_range (n := ((if (1000 : Int) < (n : Nat) then (1000 : Int) else ((n : Nat) : Int))).toNat) (fun i σ H' => ∃ y : Option V, σ = [some (.int a), some (.int n), some (.ref t), some (.int (a ^ i)), y] ∧ H' = H4 ∧ (a ^ i).natAbs < big) ⟨none, by rw [Int.pow_zero]; rfl, rfl, by rw [Int.pow_zero]; exact b1⟩ ?_ ?_⟩
      · rintro i σ H' hi ⟨y, rfl, rfl, hb⟩
        refine ⟨_, rfl, _, rfl, _, _, rfl, rfl, wide_mul (Nat.lt_trans hb big_bits) (Nat.lt_trans ha big_bits) (by decide) (by decide) (by decide), ?_⟩
        refine ⟨_, rfl, _, rfl, rfl, _, _, rfl, rfl, _, rfl, ?_⟩
        by_cases hb2 : (a ^ i * a).natAbs < big
        · rw [decide_eq_false (by split <;> omega)]
          refine iteF ⟨some (.int (0 + i)), ?_, rfl, ?_⟩
          · rw [Int.pow_succ]
            rfl
          · rw [Int.pow_succ]
            exact hb2
        · rw [decide_eq_true (by split <;> omega)]
          refine iteT ⟨_, rfl, (by show 2 ≤ sizeLine; decide), fun t2 ht4 => ?_⟩
          exact same_ss (by decide +kernel) (by decide +kernel) ((same_upd ht4) _ _ ht3) upd_same (q _ (s04.trans (same_upd ht4)))
      · rintro σ H' ⟨y, rfl, rfl, hb⟩
        exfalso
        by_cases z : (1000 : Int) < (n : Nat)
        · rw [if_pos z] at hb
          rw [Int.natAbs_pow] at hb
          have h4 : 2 ^ (1000 : Int).toNat ≤ a.natAbs ^ (1000 : Int).toNat := Nat.pow_le_pow_left h2 _
          have h5 : 2 ^ 997 ≤ 2 ^ (1000 : Int).toNat := Nat.pow_le_pow_right (by decide) (by decide)
          have := big_bits
          omega
        · rw [if_neg z, Int.toNat_natCast] at hb
          exact hf hb
end
end My
namespace My
open PySem L2 SX XT XS XE XD XL XZ
open C8 (pss_cut tCut cutS_slice pe_gc)
section
variable {P : Program} {w : World} {K : PySem.W.Frag} {mg : Str → Option Value} {base : Heap} {A : Ads}
def spDigits : Sp := fun vs H Q _ => ∃ (a : Int) (c : Nat), vs = [.int a, .int c] ∧ a.natAbs < big ∧ 2 ≤ c ∧ c ≤ 36 ∧ Q (.str (S (wrS c a))) H
theorem ok_law_digits (L : Lib P K mg A) : FnOk P w K mg base CX0 1 L.law_digits.f L.law_digits.fd ["a", "b"] spDigits := by
  refine L.law_digits.F.ok sc_law_digits (fun vs H Q E h => ?_) (fun cdv A' outer s H vs Q E hr h => ?_)
  · obtain ⟨a, c, rfl, _⟩ := h
    rfl
  · obtain ⟨a, c, rfl, ha, c2, c36, q⟩ := h
    refine ⟨_, (pss_cons (ps_set (i := 2) sc_law_digits.nd rfl (.inl rfl) pe_str)
      (pss_cons (ps_set (i := 3) sc_law_digits.nd rfl (.inl rfl) (pe_callB call_abs (by rfl) L.z_abs (by decide +kernel) (pa_cons (pv 0) pa_nil)))
      (pss_cons (ps_set (i := 4) sc_law_digits.nd rfl (.inl rfl) pe_str)
      (pss_cons (ps_for PassesOwn.never rfl (pi_range1 (by rfl) L.z_range (pa_cons pe_int pa_nil)) (pg_name (i := 5) sc_law_digits.nd rfl (.inl rfl))
        (pss_cons (ps_set (i := 4) sc_law_digits.nd rfl (.inl rfl) (pe_op op_add_str (pe_ix ix_str (pv 2) (pe_op op_sub (pv 3) (pe_op op_mulW (pe_op op_fdivW (pv 3) (pv 1)) (pv 1))) (fun _ _ => rfl)) (pv 4)))
      (pss_cons (ps_set (i := 3) sc_law_digits.nd rfl (.inl rfl) (pe_op op_fdivW (pv 3) (pv 1)))
      (pss_one (ps_if (pt_cmpR op_eq (pv 3) pe_int (nomark _))
        (pss_one ps_break)
        pss_nil)))))
      (pss_cons (ps_if (pt_cmpR op_lt (pv 0) pe_int (nomark _))
        (pss_one (ps_ret (pe_op op_add_str pe_str (pv 4))))
        pss_nil)
      (pss_one (ps_ret (pv 4)))))))), ?_⟩
    have hc0 : (0 : Int) < (c : Nat) := by omega
    have cb : c < 2 ^ 10 := by omega
    refine ⟨_, rfl, a, rfl, ?_⟩
    refine ⟨1200, rfl, by decide, by decide, for_range (n := 1200) (fun i σ H' => ∃ (ds : List Nat) (r : Nat) (yk : Option V), σ = [some (.int a), some (.int c), some (.str DG), some (.int r), some (.str (S (ds.map dg).reverse)), yk] ∧ H' = H ∧ ds.length = i ∧ r ≤ a.natAbs ∧ (0 < r ∨ ds = []) ∧ (ds = [] → r = a.natAbs) ∧ (ds ≠ [] → ds ++ (if r = 0 then [] else dgs c r) = dgs c a.natAbs)) ⟨[], a.natAbs, none, ?_, rfl, rfl, Nat.le_refl _, .inr rfl, fun _ => rfl, fun z => absurd rfl z⟩ ?_ ?_⟩
    · show [some (V.int a), some (V.int c), some (V.str DG), some (V.int (if a < 0 then -a else a)), some (V.str ""), none] = _
      rw [absI_nat]
      rfl
    · rintro i σ H' hi ⟨ds, r, yk, rfl, rfl, hl, hr', hgo, hd0, hd1⟩
      have e1 : (r : Int) - (r : Int) / (c : Int) * (c : Int) = ((r % c : Nat) : Int) := by
        have h1 := Int.emod_add_mul_ediv (r : Int) (c : Int)
        rw [Int.mul_comm (c : Int)] at h1
        rw [Int.natCast_emod]
        omega
      have ab := Nat.lt_trans ha big_bits
      have rb : r < 2 ^ 997 := Nat.lt_of_le_of_lt hr' ab
      have hq : ((r : Int) / (c : Int)).natAbs < 2 ^ 997 := by
        rw [← Int.natCast_ediv, Int.natAbs_natCast]
        exact Nat.lt_of_le_of_lt (Nat.div_le_self r c) rb
      have hd36 : r % c < 36 := Nat.lt_of_lt_of_le (Nat.mod_lt r (by omega)) (by omega)
      have ld := lenD (by omega) ha hd1
      have step := stepD (N := a.natAbs) c2 hgo hd0 hd1
      refine ⟨_, rfl, _, rfl, _, rfl, _, rfl, _, _, rfl, rfl, wide_div hc0 (b := 10) (by omega) (by decide) (by decide), _, rfl, _, _, rfl, rfl, wide_mul (a := 997) (b := 10) hq (by omega) (by decide) (by decide) (by decide), _, _, rfl, rfl, _, _, dg (r % c), rfl, rfl, (by decide +kernel), ?_, _, rfl, _, _, rfl, rfl, ?_, ?_⟩
      · rw [DG_list, e1]
        exact atI_nat (dg_at hd36)
      · rw [show (⟨#[dg (r % c)]⟩ : Str) = S [dg (r % c)] from rfl, S_len, S_len, List.length_reverse, List.length_map, List.length_singleton]
        exact Nat.le_trans (m := 1000) (by omega) (by decide)
      refine ⟨_, rfl, _, rfl, _, _, rfl, rfl, wide_div hc0 (b := 10) (by omega) (by decide) (by decide), ?_⟩
      have e2 : (⟨#[dg (r % c)]⟩ : Str) ++ S (ds.map dg).reverse = S ((ds ++ [r % c]).map dg).reverse := by
        rw [show (⟨#[dg (r % c)]⟩ : Str) = S [dg (r % c)] from rfl, S_cat, List.map_append, List.reverse_append]
        rfl
      have e3 : (r : Int) / (c : Int) = ((r / c : Nat) : Int) := (Int.natCast_ediv r c).symm
      refine ⟨_, rfl, rfl, _, rfl, ite2 (fun z => ?_) (fun z => ?_)⟩
      · have r0 : r / c = 0 := by
          have z := V.int.inj (of_decide_eq_true z)
          rw [e3] at z
          omega
        rw [if_pos r0, List.append_nil] at step
        have e4 : (⟨#[dg (r % c)]⟩ : Str) ++ S (ds.map dg).reverse = S (wrU c a.natAbs) := by
          rw [e2, step]
          rfl
        refine ⟨_, rfl, _, _, rfl, rfl, _, rfl, ?_⟩
        unfold wrS at q
        by_cases h0 : a < 0
        · rw [decide_eq_true h0]
          rw [if_pos h0] at q
          have wl := wrU_len (n := a.natAbs) c2 ha
          refine iteT ⟨_, rfl, _, _, rfl, rfl, ?_, ?_⟩
          · show (("-" : Str)).length + ((⟨#[dg (r % c)]⟩ : Str) ++ S (ds.map dg).reverse).length ≤ _
            rw [e4]
            have hz : (("-" : Str)).length + (S (wrU c a.natAbs)).length ≤ sizeLine := by
              rw [S_len (wrU c a.natAbs), show (("-" : Str)).length = 1 by decide +kernel]
              exact Nat.le_trans (m := 1000) (by omega) (by decide)
            exact hz
          · show Q (.str (("-" : Str) ++ ((⟨#[dg (r % c)]⟩ : Str) ++ S (ds.map dg).reverse))) H'
            rw [e4, show ("-" : Str) = S [45] by decide +kernel, S_cat]
            exact q
        · rw [decide_eq_false h0]
          rw [if_neg h0] at q
          refine iteF ⟨_, rfl, ?_⟩
          show Q (.str ((⟨#[dg (r % c)]⟩ : Str) ++ S (ds.map dg).reverse)) H'
          rw [e4]
          exact q
      · have r0 : r / c ≠ 0 := fun h => nd z (by show V.int ((r : Int) / (c : Int)) = V.int 0; rw [e3, h]; rfl)
        refine ⟨ds ++ [r % c], r / c, some (.int (0 + i)), ?_, rfl, ?_, Nat.le_trans (Nat.div_le_self r c) hr', .inl (Nat.pos_of_ne_zero r0), fun h => absurd h (by simp), fun _ => step⟩
        · rw [← e2, ← e3]
          rfl
        · rw [List.length_append, hl]
          rfl
    · rintro σ H' ⟨ds, r, yk, rfl, rfl, hl, hr', hgo, hd0, hd1⟩
      have := lenD (by omega) ha hd1
      omega
/-- the characters that the law draws -/
def AL : List Nat := [48, 49, 50, 57, 97, 65, 122, 90, 45, 43, 32, 46, 103]
theorem low_pl : ∀ c ∈ AL, Txt.find DG (S [PyProof.Rows.lo1 c]) = pl c ∧ c < 128 ∧ pl c < 36 := by decide +kernel
theorem vl_lt' {b : Int} (hb : 2 ≤ b ∧ b ≤ 36) : ∀ (k : Nat) (l : List Int), l.length = k → (∀ d ∈ l, 0 ≤ d ∧ d < 36) → 0 ≤ vl b l ∧ (vl b l).natAbs < 2 ^ (6 * k + 1)
  | 0, l, h, _ => by
    rw [List.length_eq_zero_iff.mp h]
    exact ⟨Int.le_refl _, by show (0 : Nat) < _; decide⟩
  | k + 1, l, h, hd => by
    obtain ⟨r, d, rfl⟩ : ∃ r d, l = r ++ [d] := ⟨l.dropLast, l.getLast (by intro z; rw [z] at h; cases h), (List.dropLast_concat_getLast _).symm⟩
    rw [List.length_append, List.length_singleton] at h
    obtain ⟨h0, h1⟩ := vl_lt' hb k r (by omega) fun x hx => hd x (List.mem_append_left _ hx)
    obtain ⟨d0, d1⟩ := hd d (List.mem_append_right _ (List.mem_singleton.mpr rfl))
    rw [vl_app]
    have e1 : 0 ≤ vl b r * b := Int.mul_nonneg h0 (by omega)
    have e2 : vl b r * b ≤ vl b r * 36 := Int.mul_le_mul_of_nonneg_left hb.2 h0
    refine ⟨by omega, ?_⟩
    rw [show 6 * (k + 1) + 1 = 6 * k + 1 + 6 by omega, Nat.pow_add]
    omega
/-- the digit as the law counts it -/
def mm (c : Nat) : Int := if pl c > 0 then pl c else 0
theorem mm_ok {c : Nat} (h : c ∈ AL) : 0 ≤ mm c ∧ mm c < 36 := by
  have := (low_pl c h).2.2
  unfold mm
  split <;> omega
theorem lower_one {c : Nat} (h : c < 128) : Txt.lower (S [c]) = S [PyProof.Rows.lo1 c] := by
  rw [PyProof.Rows.lower_ascii (x := S [c]) (fun d hd => by
    have : d = c := by simpa using hd
    rw [this]; exact h)]
  show Str.mk (([c].toArray).map PyProof.Rows.lo1) = Str.mk [PyProof.Rows.lo1 c].toArray
  rw [List.map_toArray]
  rfl
def spNoNum : Sp := fun vs H Q _ => ∃ (l : List Nat) (b : Int), vs = [.str (S l), .int b] ∧ l.length ≤ 400 ∧ 2 ≤ b ∧ b ≤ 36 ∧ (∀ c ∈ l, c ∈ AL) ∧ ∀ H', Same H H' → Q (.bl true) H'
theorem head_eq (l : List Nat) : (V.str (cutS (S l) none (some 1)) = V.str "-") ↔ l.head? = some 45 := by
  have e : cutS (S l) none (some 1) = S (l.take 1) := by
    rw [cutS_slice, slice_to (by omega)]
    rfl
  rw [e, show ("-" : Str) = S [45] by decide +kernel]
  constructor
  · intro h
    have := S_inj (V.str.inj h)
    cases l with
    | nil => cases this
    | cons c r =>
      simp at this
      rw [this]; rfl
  · intro h
    cases l with
    | nil => cases h
    | cons c r =>
      simp at h
      rw [h]; rfl
theorem ok_law_no_number (L : Lib P K mg A) (Z : Mth mg) (D : Fd w L) : FnOk P w K mg base CX0 10 L.law_no_number.f L.law_no_number.fd ["text", "b"] spNoNum := by
  have G_law_call : FnOk P w K mg base CX0 9 L.law_call.f L.law_call.fd ["name", "values"] (spCall K A) := ok_law_call L Z D
  have G_law_greatest : FnOk P w K mg base CX0 1 L.law_greatest.f L.law_greatest.fd [] spGreatest := ok_law_greatest L
  refine L.law_no_number.F.ok sc_law_no_number (fun vs H Q E h => ?_) (fun cdv A' outer s H vs Q E hr h => ?_)
  · obtain ⟨l, b, rfl, _⟩ := h
    rfl
  · obtain ⟨l, b, rfl, hl, b2, b36, hal, q⟩ := h
    refine ⟨_, (pss_cons (ps_set (i := 2) sc_law_no_number.nd rfl (.inl rfl) pe_str)
      (pss_cons (ps_set (i := 3) sc_law_no_number.nd rfl (.inl rfl) (pv 0))
      (pss_cut (ps_if (pt_cmpR op_eq (pe_slice sl_str (pv 0) po_none (po_some pe_int)) pe_str (nomark _))
        (pss_one (ps_set (i := 3) sc_law_no_number.nd rfl (.inl rfl) (pe_slice sl_str (pv 0) (po_some pe_int) po_none)))
        pss_nil)
      (pss_cons (ps_set (i := 4) sc_law_no_number.nd rfl (.inl rfl) (pe_cmpR op_ne (pv 3) pe_str (nomark _)))
      (pss_cons (ps_set (i := 5) sc_law_no_number.nd rfl (.inl rfl) pe_int)
      (pss_cons (ps_for PassesOwn.never rfl (pi_range1 (by rfl) L.z_range (pa_cons (pe_callB call_len_str (by rfl) L.z_len PySem.boot_len (pa_cons (pv 3) pa_nil)) pa_nil)) (pg_name (i := 6) sc_law_no_number.nd rfl (.inl rfl))
        (pss_cons (ps_set (i := 7) sc_law_no_number.nd rfl (.inl rfl) (pe_m1 PySem.F.slot_str_find PySem.F.type_str_find mt_find (pv 2) (pe_m0 PySem.F.slot_str_lower PySem.F.type_str_lower mt_lower (pe_ix ix_str (pv 3) (pv 6) (fun _ _ => rfl)))))
      (pss_cons (ps_set (i := 4) sc_law_no_number.nd rfl (.inl rfl) (pe_and (pv 4) (pe_one (pe_chain op_le op_lt pe_int (pv 7) (pv 1)))))
      (pss_one (ps_set (i := 5) sc_law_no_number.nd rfl (.inl rfl) (pe_op op_add (pe_op op_mulW (pv 5) (pv 1)) (pe_callB (call_max2 rfl) (by rfl) L.z_max (by decide +kernel) (pa_cons pe_int (pa_cons (pv 7) pa_nil)))))))))
      (pss_cons (ps_set (i := 8) sc_law_no_number.nd rfl (.inl rfl) (pe_call G_law_call (hr.mono (by omega)) (by rfl) L.law_call.g L.law_call.F.kp L.law_call.b .nil pass0 (pa_cons pe_str (pa_cons (pe_lst (pa_cons (pv 0) (pa_cons (pv 1) pa_nil))) pa_nil))))
      (pss_cons (ps_if (pt_not (pt_val (pv 4)))
        (pss_one (ps_ret (pe_cmpR (op_eqD (units64 hr)) (pv 8) (pe_tup (pa_cons pe_str (pa_cons pe_str pa_nil))) (nomark _))))
        pss_nil)
      (pss_cons (ps_if (pt_cmpR op_ge (pv 5) (pe_call0 G_law_greatest (hr.mono (by omega)) (by rfl) L.law_greatest.g L.law_greatest.F.kp L.law_greatest.b .nil pass0) (nomark _))
        (pss_one (ps_ret (pe_cmpR (op_eqD (units64 hr)) (pv 8) (pe_tup (pa_cons pe_str (pa_cons pe_str pa_nil))) (nomark _))))
        pss_nil)
      (pss_cut (ps_if (pt_cmpR op_eq (pe_slice sl_str (pv 0) po_none (po_some pe_int)) pe_str (nomark _))
        (pss_one (ps_set (i := 5) sc_law_no_number.nd rfl (.inl rfl) (pe_un un_neg (pv 5))))
        pss_nil)
      (pss_one (ps_ret (pe_and (pe_cmpR op_eq (pe_ix ix_tup (pv 8) pe_int (fun _ _ => rfl)) pe_str (nomark _)) (pe_one (pe_cmpR op_eq (pe_ix ix_tup (pv 8) pe_int (fun _ _ => rfl)) (pv 5) (nomark _)))))))))))))))), ?_⟩
    have lz : (S l).length ≤ sizeLine := by rw [S_len]; exact Nat.le_trans hl (by decide)
    have bl := bdy_len l
    have hb : 2 ≤ b ∧ b ≤ 36 := ⟨b2, b36⟩
    have hab : ∀ c ∈ bdy l, c ∈ AL := fun c hc => hal c (by
      unfold bdy at hc
      split at hc
      · exact List.mem_of_mem_drop hc
      · exact hc)
    refine ⟨_, rfl, fun σ' H' => σ' = [some (.str (S l)), some (.int b), some (.str DG), some (.str (S (bdy l))), none, none, none, none, none] ∧ H' = H, ?_, ?_⟩
    · refine ⟨_, rfl, 1, rfl, _, rfl, lz, rfl, _, rfl, ?_⟩
      unfold bdy
      by_cases h : l.head? = some 45
      · rw [decide_eq_true ((head_eq l).mpr h), if_pos h]
        refine iteT ⟨_, rfl, 1, rfl, _, rfl, lz, ?_, rfl⟩
        rw [show cutS (S l) (some 1) none = S (l.drop 1) from cut_from l 1]
        rfl
      · rw [decide_eq_false (fun z => h ((head_eq l).mp z)), if_neg h]
        exact iteF ⟨rfl, rfl⟩
    rintro σ' H0 ⟨rfl, rfl⟩
    generalize hbd : bdy l = bd at bl hab
    have bz : (S bd).length ≤ sizeLine := by rw [S_len]; exact Nat.le_trans bl (Nat.le_trans hl (by decide))
    have gd : (!decide (V.str (S bd) = V.str "")) = !decide (bd = []) := by
      congr 1
      rw [decide_eq_decide, show ("" : Str) = S [] by decide +kernel]
      exact ⟨fun h => S_inj (V.str.inj h), fun h => by rw [h]⟩
    refine ⟨_, rfl, rfl, ?_⟩
    refine ⟨_, rfl, S bd, rfl, bz, _, rfl, by rw [S_len]; omega, by rw [S_len]; omega, for_range (n := ((S bd).length : Int).toNat) (fun i σ H' => ∃ ya yd : Option V, σ = [some (.str (S l)), some (.int b), some (.str DG), some (.str (S bd)), some (.bl (!decide (bd = []) && ((bd.take i).all (okc b)))), some (.int (vl b ((bd.take i).map mm))), ya, yd, none] ∧ H' = H0) ⟨none, none, ?_, rfl⟩ ?_ ?_⟩
    · show [_, _, _, _, some (V.bl (!decide (V.str (S bd) = V.str ""))), _, _, _, _] = _
      rw [gd, List.take_zero, List.all_nil, Bool.and_true]
      rfl
    · rintro i σ H' hi ⟨ya, yd, rfl, rfl⟩
      have hi : i < bd.length := by
        rw [S_len] at hi
        omega
      have hc : bd[i]? = some bd[i] := List.getElem?_eq_getElem hi
      have hm : bd[i] ∈ AL := hab _ (List.getElem_mem hi)
      generalize bd[i] = c at hc hm
      obtain ⟨p1, p2, p3⟩ := low_pl c hm
      refine ⟨_, rfl, ⟨_, rfl⟩, _, rfl, _, rfl, _, _, c, rfl, rfl, bz, ?_, ?_⟩
      · rw [Int.zero_add]
        exact atI_nat hc
      have fe : Txt.find DG (Txt.lower (⟨#[c]⟩ : Str)) = pl c := by
        rw [show (⟨#[c]⟩ : Str) = S [c] from rfl, lower_one p2, p1]
      refine ⟨⟨_, rfl⟩, _, rfl, rfl, (by show (S [c]).length ≤ _; rw [S_len]; show 1 ≤ 5592405; decide), _, _, rfl, rfl, ?_⟩
      rw [fe]
      have lt := vl_lt' hb i ((bd.take i).map mm) (by rw [List.length_map, List.length_take]; omega) fun d hd => by
        obtain ⟨x, hx, rfl⟩ := List.mem_map.mp hd
        exact mm_ok (hab x (List.mem_of_mem_take hx))
      have wm : CMulW (vl b ((bd.take i).map mm)) b := wide_mul (a := 3000) (b := 10) (Nat.lt_of_lt_of_le lt.2 (Nat.pow_le_pow_right (by decide) (by omega))) (by omega) (by decide) (by decide) (by decide)
      have ga : (!decide (bd = []) && ((bd.take (i + 1)).all (okc b))) = ((!decide (bd = []) && ((bd.take i).all (okc b))) && okc b c) := by
        rw [List.take_succ, hc, List.all_append, Bool.and_assoc]
        simp
      have fin : ∀ t : Bool, t = (!decide (bd = []) && ((bd.take (i + 1)).all (okc b))) → [some (V.str (S l)), some (V.int b), some (V.str DG), some (V.str (S bd)), some (V.bl t), some (V.int (vl b ((bd.take i).map mm) * b + (if pl c > 0 then pl c else 0))), some (V.int (0 + (i : Int))), some (V.int (pl c)), none] = [some (V.str (S l)), some (V.int b), some (V.str DG), some (V.str (S bd)), some (V.bl (!decide (bd = []) && ((bd.take (i + 1)).all (okc b)))), some (V.int (vl b ((bd.take (i + 1)).map mm))), some (V.int (0 + (i : Int))), some (V.int (pl c)), (none : Option V)] := fun t e => by
        rw [e, take_map hc, vl_app]
        rfl
      refine ⟨_, rfl, _, rfl, ite2 (fun h => ?_) (fun h => ?_)⟩
      · refine ⟨_, rfl, _, _, rfl, rfl, _, rfl, ite2 (fun h1 => ?_) (fun h1 => ?_)⟩
        · refine ⟨_, rfl, _, _, rfl, rfl, ?_⟩
          refine ⟨_, rfl, _, rfl, _, _, rfl, rfl, wm, _, rfl, _, _, rfl, _, _, rfl, rfl, some (.int (0 + i)), some (.int (pl c)), fin _ ?_, rfl⟩
          rw [ga, h, Bool.true_and]
          unfold okc
          rw [h1, Bool.true_and]
        · refine ⟨_, rfl, _, rfl, _, _, rfl, rfl, wm, _, rfl, _, _, rfl, _, _, rfl, rfl, some (.int (0 + i)), some (.int (pl c)), fin _ ?_, rfl⟩
          rw [ga]
          unfold okc
          rw [decide_eq_false (nd h1), Bool.false_and, Bool.and_false]
      · refine ⟨_, rfl, _, rfl, _, _, rfl, rfl, wm, _, rfl, _, _, rfl, _, _, rfl, rfl, some (.int (0 + i)), some (.int (pl c)), fin _ ?_, rfl⟩
        rw [ga, Bool.eq_false_iff.mpr h, Bool.false_and]
    · rintro σ H' ⟨ya, yd, rfl, rfl⟩
      rw [S_len, Int.toNat_natCast, List.take_length]
      have gl : (!decide (bd = []) && bd.all (okc b)) = true ↔ good b l := by
        unfold good
        rw [hbd, Bool.and_eq_true, List.all_eq_true]
        simp [okc]
      have lt := vl_lt' hb bd.length (bd.map mm) (by rw [List.length_map]) fun d hd => by
        obtain ⟨x, hx, rfl⟩ := List.mem_map.mp hd
        exact mm_ok (hab x hx)
      have nv : good b l → vl b (bd.map mm) = vl b (bd.map pl) := fun g => by
        congr 1
        refine List.map_congr_left fun c hc => ?_
        have := g.2 c (by rw [hbd]; exact hc)
        unfold mm
        split <;> omega
      refine ⟨_, rfl, _, rfl, (by show 2 ≤ sizeLine; decide), fun a ha => ⟨a, .parse l b, rfl, SqL.of upd_same, fun H1 s1 => ?_⟩⟩
      have s01 := (same_upd ha).trans s1
      refine ⟨by omega, fun z => absurd hb z, fun _ H2' s2' => ⟨fun hg => tE_err fun t H2 s2 ht => ?_, fun hg hf H2 t s2 ht => ?_, fun hg hf => tE_err fun t H2 s2 ht => ?_⟩⟩
      · have s03 := (s01.trans s2').trans s2
        refine ⟨_, rfl, _, rfl, ?_⟩
        rw [Bool.eq_false_iff.mpr fun z => hg (gl.mp z)]
        refine iteT ⟨_, rfl, (by show 2 ≤ sizeLine; decide), fun t2 ht2 => ?_⟩
        exact same_ss (by decide +kernel) (by decide +kernel) ((same_upd ht2) _ _ upd_same) upd_same (q _ ((s03.trans (same_upd ht)).trans (same_upd ht2)))
      · have s03 := (s01.trans s2').trans s2
        have s04 := s03.trans (same_upd (o := .tup [.str "told", .int (num b l)]) ht)
        have ht2 : upd H2 t (.tup [.str "told", .int (num b l)]) t = some (.tup [.str "told", .int (num b l)]) := upd_same
        generalize upd H2 t (.tup [.str "told", .int (num b l)]) = H4 at s04 ht2
        have tq := SqT.of ht2 (K := K)
        refine ⟨_, rfl, _, rfl, ?_⟩
        rw [gl.mpr hg]
        refine iteF ?_
        refine ⟨_, rfl, rfl, _, _, rfl, rfl, _, rfl, ?_⟩
        have hv := nv hg
        have nb : vl b (bd.map mm) < big := by
          have h1 := lt.1
          unfold num at hf
          rw [hbd, ← hv] at hf
          split at hf <;> omega
        rw [decide_eq_false (by omega)]
        refine iteF ?_
        refine ⟨fun σ' H' => ∃ g0, σ' = [some (.str (S l)), some (.int b), some (.str DG), some (.str (S bd)), some g0, some (.int (num b l)), ya, yd, some (.ref t)] ∧ H' = H4, ?_, ?_⟩
        · refine ⟨_, rfl, 1, rfl, _, rfl, lz, rfl, _, rfl, ?_⟩
          unfold num
          rw [hbd, ← hv]
          by_cases h : l.head? = some 45
          · rw [decide_eq_true ((head_eq l).mpr h), if_pos h]
            exact iteT ⟨_, rfl, _, rfl, _, rfl, rfl⟩
          · rw [decide_eq_false (fun z => h ((head_eq l).mp z)), if_neg h]
            exact iteF ⟨_, rfl, rfl⟩
        · rintro σ' H5 ⟨g0, rfl, rfl⟩
          refine ⟨_, rfl, t, _, _, .str "told", rfl, rfl, tq, atI_nat (j := 0) rfl, rfl, _, rfl, ite2 (fun _ => ?_) (fun z => absurd rfl (nd z))⟩
          refine ⟨_, rfl, t, _, _, .int (num b l), rfl, rfl, tq, atI_nat (j := 1) rfl, _, rfl, rfl, ?_⟩
          show Q (.bl (decide (V.int (num b l) = V.int (num b l)))) _
          rw [decide_eq_true rfl]
          exact q _ s04
      · have s03 := (s01.trans s2').trans s2
        refine ⟨_, rfl, _, rfl, ?_⟩
        rw [gl.mpr hg]
        refine iteF ?_
        refine ⟨_, rfl, rfl, _, _, rfl, rfl, _, rfl, ?_⟩
        have hv := nv hg
        have nb : (big : Int) ≤ vl b (bd.map mm) := by
          have h1 := lt.1
          unfold num at hf
          rw [hbd, ← hv] at hf
          split at hf <;> omega
        rw [decide_eq_true nb]
        refine iteT ⟨_, rfl, (by show 2 ≤ sizeLine; decide), fun t2 ht2 => ?_⟩
        exact same_ss (by decide +kernel) (by decide +kernel) ((same_upd ht2) _ _ upd_same) upd_same (q _ ((s03.trans (same_upd ht)).trans (same_upd ht2)))
end
end My
namespace L2
open PySem PySem.Spec PyProof.Rows
section
variable {X : Cx} {a b : Expr} {ta tb : TE} {tA : TT} {pos : Pos}
theorem pet_ifExp {c : Expr} (hc : PT X c tA) (ha : PET X a ta) (hb : PET X b tb) : PET X (.IfExp c a b pos) (tIf tA ta tb) := by
  intro pins s σ H Q h0 I h
  refine wpAny_IfExp (wpAny_mono (PySem.wpAny_toks (hc.run pins s σ H _ I h)) (fun d s1 q => ?_) fun _ _ x => x.2)
  obtain ⟨hk, H1, I1, q1⟩ := q
  cases d with
  | true => exact ha pins s1 σ H1 Q (Nat.le_trans h0 hk) I1 q1
  | false => exact hb pins s1 σ H1 Q (Nat.le_trans h0 hk) I1 q1
end
end L2
namespace My
open PySem L2 SX XT XS XE XD XL XZ
open C8 (pss_cut tCut cutS_slice pe_gc)
/-! ### texts that say a number -/
def PW (c N : Nat) (w : List Nat) : Prop := ∃ zs : List Int, (∀ z ∈ zs, z = 0) ∧ w.map pl = zs ++ (dgs c N).reverse.map fun d : Nat => (d : Int)
theorem vl_zeros (b : Int) : ∀ (zs l : List Int), (∀ z ∈ zs, z = 0) → vl b (zs ++ l) = vl b l
  | [], _, _ => rfl
  | z :: zs, l, h => by
    have e : z = 0 := h z (List.mem_cons_self ..)
    subst e
    have ih := vl_zeros b zs l fun z hz => h z (List.mem_cons_of_mem _ hz)
    unfold vl at ih ⊢
    rw [List.cons_append, List.foldl_cons, Int.zero_mul, Int.zero_add]
    exact ih
theorem PW.ok {c N : Nat} {w : List Nat} (h2 : 2 ≤ c) (h36 : c ≤ 36) (h : PW c N w) : w ≠ [] ∧ (∀ x ∈ w, 0 ≤ pl x ∧ pl x < (c : Nat)) ∧ vl c (w.map pl) = (N : Int) := by
  obtain ⟨zs, hz, e⟩ := h
  refine ⟨fun z => ?_, fun x hx => ?_, ?_⟩
  · rw [z] at e
    have h3 := congrArg List.length e
    have h4 := List.length_pos_iff.mpr (dgs_ne c N)
    simp only [List.map_nil, List.length_nil, List.length_append, List.length_map, List.length_reverse] at h3
    omega
  · have hm : pl x ∈ w.map pl := List.mem_map_of_mem hx
    rw [e] at hm
    rcases List.mem_append.mp hm with hm | hm
    · rw [hz _ hm]
      omega
    · obtain ⟨d, hd, e2⟩ := List.mem_map.mp hm
      have := dgs_lt h2 N d (List.mem_reverse.mp hd)
      omega
  · rw [e, vl_zeros _ _ _ hz]
    exact vl_dgs h2 N
theorem dg_lt : ∀ d, d < 36 → dg d < 128 ∧ dg d ≠ 45 ∧ PyProof.Rows.up1 (dg d) ≠ 45 := by decide +kernel
theorem wrU_mem {c N : Nat} (h2 : 2 ≤ c) (h36 : c ≤ 36) : ∀ x ∈ wrU c N, ∃ d, d < 36 ∧ x = dg d := by
  intro x hx
  unfold wrU at hx
  obtain ⟨d, hd, rfl⟩ := List.mem_map.mp (List.mem_reverse.mp hx)
  exact ⟨d, Nat.lt_of_lt_of_le (dgs_lt h2 N d hd) h36, rfl⟩
theorem pw0 {c N : Nat} (h2 : 2 ≤ c) (h36 : c ≤ 36) : PW c N (wrU c N) := by
  refine ⟨[], nofun, ?_⟩
  unfold wrU
  rw [List.nil_append, List.map_reverse, List.map_reverse, List.map_map]
  congr 1
  exact List.map_congr_left fun d hd => pl_dg d (Nat.lt_of_lt_of_le (dgs_lt h2 N d hd) h36)
theorem pw1 {c N : Nat} (h2 : 2 ≤ c) (h36 : c ≤ 36) : PW c N ((wrU c N).map PyProof.Rows.up1) := by
  refine ⟨[], nofun, ?_⟩
  unfold wrU
  rw [List.nil_append, List.map_reverse, List.map_reverse, List.map_reverse, List.map_map, List.map_map]
  congr 1
  exact List.map_congr_left fun d hd => pl_up d (Nat.lt_of_lt_of_le (dgs_lt h2 N d hd) h36)
theorem pl48 : pl 48 = 0 := by decide +kernel
theorem pwz {c N : Nat} {w : List Nat} (h : PW c N w) : PW c N (48 :: w) := by
  obtain ⟨zs, hz, e⟩ := h
  refine ⟨0 :: zs, fun z hz' => ?_, ?_⟩
  · rcases List.mem_cons.mp hz' with q | q
    · exact q
    · exact hz z q
  · rw [List.map_cons, e, pl48]
    rfl
/-- l says the number a -/
def RD (c : Nat) (a : Int) (l : List Nat) : Prop := (a < 0 ∧ ∃ w, l = 45 :: w ∧ PW c a.natAbs w) ∨ (0 ≤ a ∧ PW c a.natAbs l ∧ l.head? ≠ some 45)
theorem RD.ok {c : Nat} {a : Int} {l : List Nat} (h2 : 2 ≤ c) (h36 : c ≤ 36) (h : RD c a l) : good (c : Nat) l ∧ num (c : Nat) l = a := by
  rcases h with ⟨h0, w, rfl, hp⟩ | ⟨h0, hp, hh⟩
  · obtain ⟨p1, p2, p3⟩ := hp.ok h2 h36
    have e : bdy (45 :: w) = w := by unfold bdy; rw [if_pos (show (45 :: w).head? = some 45 from rfl)]; rfl
    refine ⟨⟨by rw [e]; exact p1, by rw [e]; exact p2⟩, ?_⟩
    unfold num
    rw [if_pos (show (45 :: w).head? = some 45 from rfl), e, p3]
    omega
  · obtain ⟨p1, p2, p3⟩ := hp.ok h2 h36
    have e : bdy l = l := by unfold bdy; rw [if_neg hh]
    refine ⟨⟨by rw [e]; exact p1, by rw [e]; exact p2⟩, ?_⟩
    unfold num
    rw [if_neg hh, e, p3]
    omega
theorem head_ne {l : List Nat} (h : ∀ x ∈ l, x ≠ 45) : l.head? ≠ some 45 := by
  cases l with
  | nil => exact nofun
  | cons x r =>
    intro z
    simp at z
    exact h x (List.mem_cons_self ..) z
theorem rd0 {c : Nat} {a : Int} (h2 : 2 ≤ c) (h36 : c ≤ 36) : RD c a (wrS c a) := by
  unfold wrS
  by_cases h : a < 0
  · rw [if_pos h]
    exact .inl ⟨h, _, rfl, pw0 h2 h36⟩
  · rw [if_neg h]
    refine .inr ⟨by omega, pw0 h2 h36, head_ne fun x hx => ?_⟩
    obtain ⟨d, hd, rfl⟩ := wrU_mem h2 h36 x hx
    exact (dg_lt d hd).2.1
theorem rd1 {c : Nat} {a : Int} (h2 : 2 ≤ c) (h36 : c ≤ 36) : RD c a ((wrS c a).map PyProof.Rows.up1) := by
  unfold wrS
  by_cases h : a < 0
  · rw [if_pos h, List.map_cons]
    exact .inl ⟨h, _, rfl, pw1 h2 h36⟩
  · rw [if_neg h]
    refine .inr ⟨by omega, pw1 h2 h36, head_ne fun x hx => ?_⟩
    obtain ⟨y, hy, rfl⟩ := List.mem_map.mp hx
    obtain ⟨d, hd, rfl⟩ := wrU_mem h2 h36 y hy
    exact (dg_lt d hd).2.2
def thirdT (c : Nat) (a : Int) : List Nat := if a < 0 then 45 :: 48 :: wrU c a.natAbs else 48 :: 48 :: wrU c a.natAbs
theorem rd2 {c : Nat} {a : Int} (h2 : 2 ≤ c) (h36 : c ≤ 36) : RD c a (thirdT c a) := by
  unfold thirdT
  by_cases h : a < 0
  · rw [if_pos h]
    exact .inl ⟨h, _, rfl, pwz (pw0 h2 h36)⟩
  · rw [if_neg h]
    exact .inr ⟨by omega, pwz (pwz (pw0 h2 h36)), by simp⟩
theorem wrS_small {c : Nat} {a : Int} (h2 : 2 ≤ c) (h36 : c ≤ 36) : ∀ x ∈ wrS c a, x < 128 := by
  intro x hx
  have hu : ∀ x ∈ wrU c a.natAbs, x < 128 := fun x hx => by
    obtain ⟨d, hd, rfl⟩ := wrU_mem h2 h36 x hx
    exact (dg_lt d hd).1
  unfold wrS at hx
  split at hx
  · rcases List.mem_cons.mp hx with q | q
    · omega
    · exact hu x q
  · exact hu x hx
theorem upper_wr {c : Nat} {a : Int} (h2 : 2 ≤ c) (h36 : c ≤ 36) : Txt.upper (S (wrS c a)) = S ((wrS c a).map PyProof.Rows.up1) := by
  rw [PyProof.Rows.upper_ascii (x := S (wrS c a)) (fun d hd => wrS_small h2 h36 d (by simpa using hd))]
  show Str.mk ((wrS c a).toArray.map PyProof.Rows.up1) = Str.mk ((wrS c a).map PyProof.Rows.up1).toArray
  rw [List.map_toArray]
theorem flat_id : ∀ (w : List Nat), (∀ x ∈ w, x ≠ 45) → w.flatMap (fun d => if d = 45 then [45, 48] else [d]) = w
  | [], _ => rfl
  | x :: r, h => by
    rw [List.flatMap_cons, if_neg (h x (List.mem_cons_self ..)), flat_id r fun y hy => h y (List.mem_cons_of_mem _ hy)]
    rfl
theorem repl_wr {c : Nat} {a : Int} (h2 : 2 ≤ c) (h36 : c ≤ 36) (h : a < 0) : Txt.replace (S (wrS c a)) "-" "-0" = S (thirdT c a) := by
  have e : (Txt.replace (S (wrS c a)) "-" "-0").cps.toList = thirdT c a := by
    rw [PySem.StrLaws.replace_list (by decide +kernel), show (("-" : Str)).cps.toList = [45] by decide +kernel, show (("-0" : Str)).cps.toList = [45, 48] by decide +kernel, XQ.repl_one]
    show (wrS c a).flatMap _ = _
    unfold wrS thirdT
    have hu : ∀ x ∈ wrU c a.natAbs, x ≠ 45 := fun x hx => by
      obtain ⟨d, hd, rfl⟩ := wrU_mem h2 h36 x hx
      exact (dg_lt d hd).2.1
    rw [if_pos h, if_pos h, List.flatMap_cons, if_pos rfl, flat_id _ hu]
    rfl
  rw [← S_tl (Txt.replace (S (wrS c a)) "-" "-0"), e]
section
variable {P : Program} {w : World} {K : PySem.W.Frag} {mg : Str → Option Value} {base : Heap} {A : Ads}
def spBaseL : Sp := fun vs H Q _ => ∃ (a b : Int), vs = [.int a, .int b] ∧ a.natAbs < big ∧ 0 ≤ b ∧ b ≤ 40 ∧ ∀ H', Same H H' → Q (.bl true) H'
theorem ok_law_base (L : Lib P K mg A) (Z : Mth mg) (D : Fd w L) : FnOk P w K mg base CX0 10 L.law_base.f L.law_base.fd ["a", "b"] spBaseL := by
  have G_law_call : FnOk P w K mg base CX0 9 L.law_call.f L.law_call.fd ["name", "values"] (spCall K A) := ok_law_call L Z D
  have G_law_is_integer : FnOk P w K mg base CX0 1 L.law_is_integer.f L.law_is_integer.fd ["told"] spIsInteger := ok_law_is_integer L
  have G_law_digits : FnOk P w K mg base CX0 1 L.law_digits.f L.law_digits.fd ["a", "b"] spDigits := ok_law_digits L
  refine XQ.okT L.law_base.F sc_law_base (by decide +kernel) (by decide) (fun vs H Q E h => ?_) (fun cdv A' outer s H vs Q E hr h => ?_)
  · obtain ⟨a, b, rfl, _⟩ := h
    rfl
  · obtain ⟨a, b, rfl, ha, b0, b40, q⟩ := h
    refine ⟨_, (psst_cons (PST.of (ps_set (i := 2) sc_law_base.nd rfl (.inl rfl) (pe_call G_law_call (hr.mono (by omega)) (by rfl) L.law_call.g L.law_call.F.kp L.law_call.b .nil pass0 (pa_cons pe_str (pa_cons (pe_lst (pa_cons (pv 0) (pa_cons (pv 1) pa_nil))) pa_nil)))))
      (psst_cons (PST.of (ps_if (pt_not (pt_chain op_le op_le pe_int (pv 1) pe_int))
        (pss_one (ps_ret (pe_and (pe_cmpR (op_eqD (units64 hr)) (pv 2) (pe_tup (pa_cons pe_str (pa_cons pe_str pa_nil))) (nomark _)) (pe_one (pe_cmpR (op_eqD (units64 hr)) (pe_call G_law_call (hr.mono (by omega)) (by rfl) L.law_call.g L.law_call.F.kp L.law_call.b .nil pass0 (pa_cons pe_str (pa_cons (pe_lst (pa_cons pe_str (pa_cons (pv 1) pa_nil))) pa_nil))) (pe_tup (pa_cons pe_str (pa_cons pe_str pa_nil))) (nomark _))))))
        pss_nil))
      (psst_cons (PST.of (ps_set (i := 3) sc_law_base.nd rfl (.inl rfl) (pe_call G_law_digits (hr.mono (by omega)) (by rfl) L.law_digits.g L.law_digits.F.kp L.law_digits.b .nil pass0 (pa_cons (pv 0) (pa_cons (pv 1) pa_nil)))))
      (psst_cons (PST.of (ps_if (PW.pt (pw_and (pt_cmpR op_le (pe_callB call_len_str (by rfl) L.z_len PySem.boot_len (pa_cons (pv 3) pa_nil)) pe_int (nomark _)) (pw_and1 (PW.pt (pw_or (pt_cmpR op_ne (pe_ix ix_tup (pv 2) pe_int (fun _ _ => rfl)) pe_str (nomark _)) (pw_or1 (pt_cmpR op_ne (pe_ix ix_tup (pv 2) pe_int (fun _ _ => rfl)) (pv 3) (nomark _))))))))
        (pss_one (ps_ret pe_bl))
        pss_nil))
      (psst_cons (PST.of (ps_if (pt_cmpR op_gt (pe_callB call_len_str (by rfl) L.z_len PySem.boot_len (pa_cons (pv 3) pa_nil)) pe_int (nomark _))
        (pss_one (ps_ret (pe_cmpR (op_eqD (units64 hr)) (pv 2) (pe_tup (pa_cons pe_str (pa_cons pe_str pa_nil))) (nomark _))))
        pss_nil))
      (psst_cons (L2.pst_for (by first | exact PassesOwn.never | exact passes_of rfl) rfl (L2.pit_list (L2.pet_lst (L2.pat_cons (CwR.PET.of (pv 3)) (L2.pat_cons (CwR.PET.of (pe_m0 PySem.F.slot_str_upper PySem.F.type_str_upper mt_upper (pv 3))) (L2.pat_cons (pet_ifExp (pt_cmpR op_lt (pv 0) pe_int (nomark _)) (CwR.pet_replC (pv 3) (by decide +kernel)) (CwR.PET.of (pe_op op_add_str pe_str (pv 3)))) L2.pat_nil))))) (pg_name (i := 4) sc_law_base.nd rfl (.inl rfl))
        (pss_cons (ps_set (i := 5) sc_law_base.nd rfl (.inl rfl) (pe_call G_law_call (hr.mono (by omega)) (by rfl) L.law_call.g L.law_call.F.kp L.law_call.b .nil pass0 (pa_cons pe_str (pa_cons (pe_lst (pa_cons (pv 4) (pa_cons (pv 1) pa_nil))) pa_nil))))
      (pss_one (ps_if (PW.pt (pw_or (pt_cmpR op_ne (pe_ix ix_tup (pv 5) pe_int (fun _ _ => rfl)) pe_str (nomark _)) (pw_or (pt_not (pt_val (pe_call G_law_is_integer (hr.mono (by omega)) (by rfl) L.law_is_integer.g L.law_is_integer.F.kp L.law_is_integer.b .nil pass0 (pa_cons (pe_ix ix_tup (pv 5) pe_int (fun _ _ => rfl)) pa_nil)))) (pw_or1 (pt_cmpR op_ne (pe_ix ix_tup (pv 5) pe_int (fun _ _ => rfl)) (pv 0) (nomark _))))))
        (pss_one (ps_ret pe_bl))
        pss_nil))))
      (CwR.psst_one (PST.of (ps_ret pe_bl))))))))), ?_⟩
    refine ⟨_, rfl, _, rfl, (by show 2 ≤ sizeLine; decide), fun l hl => ⟨l, .base a b, rfl, SqL.of upd_same, fun H1 s1 => ?_⟩⟩
    have s01 := (same_upd hl).trans s1
    refine ⟨ha, fun hb => tE_err fun t H2 s2 ht => ?_, fun hb H2' s2' H2 t s2 ht => ?_⟩
    · have s02 := s01.trans s2
      have s03 := s02.trans (same_upd (o := .tup [.str "ValueError", .str "no such base"]) ht)
      have ht2 : upd H2 t (.tup [.str "ValueError", .str "no such base"]) t = some (.tup [.str "ValueError", .str "no such base"]) := upd_same
      generalize upd H2 t (.tup [.str "ValueError", .str "no such base"]) = H3 at s03 ht2
      refine ⟨_, rfl, _, _, rfl, rfl, _, rfl, ite2 (fun h => ⟨_, _, rfl, rfl, _, rfl, ?_⟩) (fun h => ⟨_, rfl, ?_⟩)⟩
      · rw [decide_eq_false (fun z => hb ⟨of_decide_eq_true h, z⟩)]
        refine iteT ⟨_, rfl, (by show 2 ≤ sizeLine; decide), fun t2 hn2 => ?_⟩
        refine same_ss (by decide +kernel) (by decide +kernel) ((same_upd hn2) _ _ ht2) upd_same ⟨_, rfl, iteT ?_⟩
        have s04 := s03.trans (same_upd (o := .tup [.str "ValueError", .str "no such base"]) hn2)
        generalize upd H3 t2 (.tup [.str "ValueError", .str "no such base"]) = H4 at s04
        refine ⟨_, rfl, (by show 2 ≤ sizeLine; decide), fun l2 hl2 => ⟨l2, .parse [49] b, rfl, SqL.of (by rw [show Cl.args (.parse [49] b) = [V.str "1", V.int b] from rfl]; exact upd_same), fun H5 s5 => ⟨by decide, fun _ => tE_err fun t3 H6 s6 ht3 => ?_, fun z => absurd z hb⟩⟩⟩
        have s07 := (((s04.trans (same_upd hl2)).trans s5).trans s6).trans (same_upd (o := .tup [.str "ValueError", .str "no such base"]) ht3)
        refine ⟨(by show 2 ≤ sizeLine; decide), fun t4 hn4 => ?_⟩
        exact same_ss (by decide +kernel) (by decide +kernel) ((same_upd hn4) _ _ upd_same) upd_same (q _ (s07.trans (same_upd hn4)))
      · skip
        refine iteT ⟨_, rfl, (by show 2 ≤ sizeLine; decide), fun t2 hn2 => ?_⟩
        refine same_ss (by decide +kernel) (by decide +kernel) ((same_upd hn2) _ _ ht2) upd_same ⟨_, rfl, iteT ?_⟩
        have s04 := s03.trans (same_upd (o := .tup [.str "ValueError", .str "no such base"]) hn2)
        generalize upd H3 t2 (.tup [.str "ValueError", .str "no such base"]) = H4 at s04
        refine ⟨_, rfl, (by show 2 ≤ sizeLine; decide), fun l2 hl2 => ⟨l2, .parse [49] b, rfl, SqL.of (by rw [show Cl.args (.parse [49] b) = [V.str "1", V.int b] from rfl]; exact upd_same), fun H5 s5 => ⟨by decide, fun _ => tE_err fun t3 H6 s6 ht3 => ?_, fun z => absurd z hb⟩⟩⟩
        have s07 := (((s04.trans (same_upd hl2)).trans s5).trans s6).trans (same_upd (o := .tup [.str "ValueError", .str "no such base"]) ht3)
        refine ⟨(by show 2 ≤ sizeLine; decide), fun t4 hn4 => ?_⟩
        exact same_ss (by decide +kernel) (by decide +kernel) ((same_upd hn4) _ _ upd_same) upd_same (q _ (s07.trans (same_upd hn4)))
    · obtain ⟨c, rfl⟩ : ∃ c : Nat, b = (c : Int) := ⟨b.toNat, by omega⟩
      have h2 : 2 ≤ c := by omega
      have h36 : c ≤ 36 := by omega
      have s02 := (s01.trans s2').trans s2
      have s03 := s02.trans (same_upd (o := .tup [.str "told", .str (S (wrS (c : Int).toNat a))]) ht)
      have ht2 : upd H2 t (.tup [.str "told", .str (S (wrS (c : Int).toNat a))]) t = some (.tup [.str "told", .str (S (wrS c a))]) := by rw [Int.toNat_natCast]; exact upd_same
      generalize upd H2 t (.tup [.str "told", .str (S (wrS (c : Int).toNat a))]) = H3 at s03 ht2
      have tq := SqT.of ht2 (K := K)
      have wl := wrS_len (n := a) h2 ha
      have wz : (S (wrS c a)).length ≤ sizeLine := by rw [S_len]; exact Nat.le_trans wl (by decide)
      refine ⟨_, rfl, _, _, rfl, rfl, _, rfl, ite2 (fun h => ⟨_, _, rfl, rfl, _, rfl, ?_⟩) (fun h => absurd hb.1 (nd h))⟩
      rw [decide_eq_true hb.2]
      refine iteF ?_
      refine ⟨_, rfl, _, rfl, a, c, rfl, ha, h2, h36, ?_⟩
      have lz2 : ((S (wrS c a)).length : Int) ≤ 1000 := by rw [S_len]; omega
      refine ⟨_, rfl, S (wrS c a), rfl, wz, _, _, rfl, rfl, _, rfl, ?_⟩
      rw [decide_eq_true lz2]
      refine iteT ?_
      refine ⟨_, rfl, t, _, _, .str "told", rfl, rfl, tq, atI_nat (j := 0) rfl, rfl, _, rfl, ite2 (fun z => absurd z (by decide +kernel)) (fun _ => ?_)⟩
      refine ⟨_, rfl, t, _, _, .str (S (wrS c a)), rfl, rfl, tq, atI_nat (j := 1) rfl, _, rfl, rfl, _, rfl, ite2 (fun z => absurd z (by simp)) (fun _ => ?_)⟩
      refine ⟨_, rfl, S (wrS c a), rfl, wz, _, _, rfl, rfl, _, rfl, ?_⟩
      rw [decide_eq_false (by omega)]
      refine iteF ?_
      have el : ∀ X3 : Str, X3 = S (thirdT c a) → ∀ (i : Nat) (v : V), [V.str (S (wrS c a)), V.str (Txt.upper (S (wrS c a))), V.str X3][i]? = some v → ∃ l', v = V.str (S l') ∧ RD c a l' ∧ l'.length ≤ 2000 := by
        intro X3 e i v hv
        have tl : (thirdT c a).length ≤ 2000 := by
          have := wrU_len (n := a.natAbs) h2 ha
          unfold thirdT
          split <;> simp <;> omega
        match i, hv with
        | 0, hv => exact ⟨_, (Option.some.inj hv).symm, rd0 h2 h36, by omega⟩
        | 1, hv => exact ⟨_, by rw [← upper_wr h2 h36]; exact (Option.some.inj hv).symm, rd1 h2 h36, by rw [List.length_map]; omega⟩
        | 2, hv => exact ⟨_, by rw [← e]; exact (Option.some.inj hv).symm, rd2 h2 h36, tl⟩
        | n + 3, hv => simp at hv
      refine ⟨_, rfl, _, rfl, ⟨_, rfl⟩, _, rfl, rfl, (by rw [S_len]; omega), _, rfl, _, _, rfl, rfl, _, rfl, ?_⟩
      by_cases h0 : a < 0
      · rw [decide_eq_true h0]
        have e3 := repl_wr h2 h36 h0
        refine iteT ⟨_, rfl, _, rfl, (by rw [S_len, show (("-0" : Str)).length = 2 by decide +kernel]; omega), ?_⟩
        refine ⟨(by show 3 ≤ sizeLine; decide), fun D2 hD => ⟨D2, rfl, ⟨_, SqL.of upd_same⟩, for_list (K := K) (a := D2) (xs := [V.str (S (wrS c a)), V.str (Txt.upper (S (wrS c a))), V.str (Txt.replace (S (wrS c a)) "-" "-0")]) (fun i σ H' => ∃ y4 y5 : Option V, σ = [some (.int a), some (.int c), some (.ref t), some (.str (S (wrS c a))), y4, y5] ∧ Same (upd H3 D2 (.lst [V.str (S (wrS c a)), V.str (Txt.upper (S (wrS c a))), V.str (Txt.replace (S (wrS c a)) "-" "-0")])) H') ⟨none, none, rfl, Same.rf⟩ (fun i σ H' _ h => ?_) ?_ ?_⟩⟩
        · obtain ⟨_, _, _, s5⟩ := h
          exact SqL.of (s5 _ _ upd_same)
        · rintro i v σ H5 hv ⟨y4, y5, rfl, s5⟩
          obtain ⟨l', rfl, hrd, hlen⟩ := el _ e3 i v hv
          obtain ⟨hg, hn⟩ := hrd.ok h2 h36
          refine ⟨_, rfl, _, rfl, (by show 2 ≤ sizeLine; decide), fun l2 hl2 => ⟨l2, .parse l' c, rfl, SqL.of upd_same, fun H6 s6 => ⟨hlen, fun z => absurd hb z, fun _ H7' s7' => ⟨fun z => absurd hg z, fun _ _ H7 t3 s7 ht3 => ?_, fun _ z => absurd (by rw [hn]; exact ha) z⟩⟩⟩⟩
          have s08 := ((((s5.trans (same_upd hl2)).trans s6).trans s7').trans s7).trans (same_upd (o := .tup [.str "told", .int (num (c : Nat) l')]) ht3)
          have ht4 : upd H7 t3 (.tup [.str "told", .int (num (c : Nat) l')]) t3 = some (.tup [.str "told", .int a]) := by rw [hn]; exact upd_same
          generalize upd H7 t3 (.tup [.str "told", .int (num (c : Nat) l')]) = H8 at s08 ht4
          have tq3 := SqT.of ht4 (K := K)
          refine ⟨_, rfl, t3, _, _, .str "told", rfl, rfl, tq3, atI_nat (j := 0) rfl, rfl, _, rfl, ite2 (fun z => absurd z (by decide +kernel)) (fun _ => ?_)⟩
          refine ⟨_, rfl, t3, _, _, .int a, rfl, rfl, tq3, atI_nat (j := 1) rfl, a, rfl, _, rfl, iteF ?_⟩
          refine ⟨_, rfl, t3, _, _, .int a, rfl, rfl, tq3, atI_nat (j := 1) rfl, _, rfl, rfl, _, rfl, ite2 (fun z => absurd z (by simp)) (fun _ => ?_)⟩
          exact ⟨_, _, rfl, s08⟩
        · rintro σ H5 ⟨y4, y5, rfl, s5⟩
          exact q _ ((s03.trans (same_upd hD)).trans s5)
      · rw [decide_eq_false h0]
        have e3 : ("00" : Str) ++ S (wrS c a) = S (thirdT c a) := by
          rw [show ("00" : Str) = S [48, 48] by decide +kernel, S_cat]
          unfold thirdT wrS
          rw [if_neg h0, if_neg h0]
          rfl
        refine iteF ⟨_, rfl, _, _, rfl, rfl, ?_, ?_⟩
        · have hz : (("00" : Str)).length + (S (wrS c a)).length ≤ sizeLine := by
            rw [S_len (wrS c a), show (("00" : Str)).length = 2 by decide +kernel]
            exact Nat.le_trans (m := 2000) (by omega) (by decide)
          exact hz
        refine ⟨(by show 3 ≤ sizeLine; decide), fun D2 hD => ⟨D2, rfl, ⟨_, SqL.of upd_same⟩, for_list (K := K) (a := D2) (xs := [V.str (S (wrS c a)), V.str (Txt.upper (S (wrS c a))), V.str (("00" : Str) ++ S (wrS c a))]) (fun i σ H' => ∃ y4 y5 : Option V, σ = [some (.int a), some (.int c), some (.ref t), some (.str (S (wrS c a))), y4, y5] ∧ Same (upd H3 D2 (.lst [V.str (S (wrS c a)), V.str (Txt.upper (S (wrS c a))), V.str (("00" : Str) ++ S (wrS c a))])) H') ⟨none, none, rfl, Same.rf⟩ (fun i σ H' _ h => ?_) ?_ ?_⟩⟩
        · obtain ⟨_, _, _, s5⟩ := h
          exact SqL.of (s5 _ _ upd_same)
        · rintro i v σ H5 hv ⟨y4, y5, rfl, s5⟩
          obtain ⟨l', rfl, hrd, hlen⟩ := el _ e3 i v hv
          obtain ⟨hg, hn⟩ := hrd.ok h2 h36
          refine ⟨_, rfl, _, rfl, (by show 2 ≤ sizeLine; decide), fun l2 hl2 => ⟨l2, .parse l' c, rfl, SqL.of upd_same, fun H6 s6 => ⟨hlen, fun z => absurd hb z, fun _ H7' s7' => ⟨fun z => absurd hg z, fun _ _ H7 t3 s7 ht3 => ?_, fun _ z => absurd (by rw [hn]; exact ha) z⟩⟩⟩⟩
          have s08 := ((((s5.trans (same_upd hl2)).trans s6).trans s7').trans s7).trans (same_upd (o := .tup [.str "told", .int (num (c : Nat) l')]) ht3)
          have ht4 : upd H7 t3 (.tup [.str "told", .int (num (c : Nat) l')]) t3 = some (.tup [.str "told", .int a]) := by rw [hn]; exact upd_same
          generalize upd H7 t3 (.tup [.str "told", .int (num (c : Nat) l')]) = H8 at s08 ht4
          have tq3 := SqT.of ht4 (K := K)
          refine ⟨_, rfl, t3, _, _, .str "told", rfl, rfl, tq3, atI_nat (j := 0) rfl, rfl, _, rfl, ite2 (fun z => absurd z (by decide +kernel)) (fun _ => ?_)⟩
          refine ⟨_, rfl, t3, _, _, .int a, rfl, rfl, tq3, atI_nat (j := 1) rfl, a, rfl, _, rfl, iteF ?_⟩
          refine ⟨_, rfl, t3, _, _, .int a, rfl, rfl, tq3, atI_nat (j := 1) rfl, _, rfl, rfl, _, rfl, ite2 (fun z => absurd z (by simp)) (fun _ => ?_)⟩
          exact ⟨_, _, rfl, s08⟩
        · rintro σ H5 ⟨y4, y5, rfl, s5⟩
          exact q _ ((s03.trans (same_upd hD)).trans s5)
end
end My
namespace My
open PySem L2 SX XT XS XE XD XL XZ
open C8 (pss_cut tCut cutS_slice pe_gc)
section
variable {X : Cx}
theorem op_mul_str : OpR X (binaryOp .Mult) (fun x y H Q => ∃ z n, x = .str z ∧ y = .int n ∧ MulOk z n ∧ Q (.str (Txt.mul z n)) H) := by
  intro pins s σ H x y v u Q I rx ry h
  obtain ⟨z, n, rfl, rfl, hz, q⟩ := h
  obtain ⟨t, rfl⟩ := rx
  obtain ⟨t', rfl⟩ := ry
  exact SB.mul hz (fun t' tk => ⟨.str (Txt.mul z n), H, I.tok _, ⟨_, rfl⟩, q⟩)
end
theorem nines (n : Int) : Txt.mul "9" n = S (List.replicate n.toNat 57) := by
  rw [show ("9" : Str) = ⟨#[57]⟩ by decide +kernel, ← S_tl (Txt.mul ⟨#[57]⟩ n), PyProof.Rows.mul_one_list]
theorem mul_one_ok {z : Str} {n : Nat} (hz : z.length = 1) (hn : n ≤ 1000) : MulOk z ((n : Nat) : Int) := by
  refine ⟨?_, fun h1 _ => ?_, fun h1 _ => ?_⟩
  · have h1 : decide ((n : Int) < -(2 ^ 63 : Int)) = false := decide_eq_false (by omega)
    have h2 : decide ((n : Int) ≥ 2 ^ 63) = false := decide_eq_false (by omega)
    rw [h1, h2]
    rfl
  · rw [hz]
    have : (1 : Int) ≤ (2 ^ 63 - 1) / (n : Int) := by
      rw [Int.le_ediv_iff_mul_le (by omega)]
      omega
    omega
  · rw [hz]
    unfold PySem.Builtin.Str.tooLong
    rw [decide_eq_false_iff_not, sizeLine_eq]
    have : ((n : Nat) : Int).toNat = n := by omega
    omega
theorem nines_ok {n : Int} (h0 : 0 ≤ n) (h : n ≤ 1000) : MulOk "9" n := by
  obtain ⟨k, rfl⟩ : ∃ k : Nat, n = (k : Int) := ⟨n.toNat, by omega⟩
  exact mul_one_ok (by decide +kernel) (by omega)
section
variable {P : Program} {w : World} {K : PySem.W.Frag} {mg : Str → Option Value} {base : Heap} {A : Ads}
def rowT : Str := "0129aAzZ-+ .g"
theorem rowT_list : rowT.cps.toList = [48, 49, 50, 57, 97, 65, 122, 90, 45, 43, 32, 46, 103] := by decide +kernel
def spPickS (K : PySem.W.Frag) : Sp := fun vs H Q _ => ∃ (a p : Addr) (ns : List Int), vs = [.ref p, .str rowT] ∧ StL K H a p ns ∧ ∀ H' c, c ∈ AL → Keep p H H' → StL K H' a p ns → Q (.str (S [c])) H'
theorem ok_law_pickS (L : Lib P K mg A) : FnOk P w K mg base CX0 3 L.law_pick.f L.law_pick.fd ["state", "row"] (spPickS K) := by
  have G_law_draw : FnOk P w K mg base CX0 2 L.law_draw.f L.law_draw.fd ["state", "many"] (spDraw K) := ok_law_draw L
  refine L.law_pick.F.ok sc_law_pick (fun vs H Q E h => ?_) (fun cdv A' outer s H vs Q E hr h => ?_)
  · obtain ⟨a, p, ns, rfl, _⟩ := h
    rfl
  · obtain ⟨a, p, ns, rfl, hst, q⟩ := h
    refine ⟨_, (pss_one (ps_ret (pe_ix ix_str (pv 1) (pe_call G_law_draw (hr.mono (by omega)) (by rfl) L.law_draw.g L.law_draw.F.kp L.law_draw.b .nil pass0 (pa_cons (pv 0) (pa_cons (pe_callB call_len_str (by rfl) L.z_len PySem.boot_len (pa_cons (pv 1) pa_nil)) pa_nil))) (fun _ _ => rfl)))), ?_⟩
    have rl : rowT.length = 13 := by decide +kernel
    refine ⟨_, rfl, _, rfl, _, rfl, rowT, rfl, (by rw [rl]; decide), a, p, ns, _, rfl, hst, by omega, by omega, fun H' i k1 st i0 i1 => ?_⟩
    obtain ⟨j, rfl⟩ : ∃ j : Nat, i = (j : Int) := ⟨i.toNat, by omega⟩
    have hj : j < 13 := by omega
    have ha : ∃ c, rowT.cps.toList[j]? = some c ∧ c ∈ AL := by
      rw [rowT_list]
      exact (by decide : ∀ j, j < 13 → ∃ c, [48, 49, 50, 57, 97, 65, 122, 90, 45, 43, 32, 46, 103][j]? = some c ∧ c ∈ AL) j hj
    obtain ⟨c, hc, hm⟩ := ha
    exact ⟨rowT, _, c, rfl, rfl, (by rw [rl]; decide), atI_nat hc, q H' c hm k1 st⟩
theorem si_shape {x : Str} {i : Int} (hx : PyData.strOk x = true) : SeqAt.shaped (.tuple [.str x, .int i]) = true := by
  simp [SeqAt.shaped, PyData.canLay0, PyData.canLayAll0, PyData.depth, PyData.depthAll, hx]
theorem eqv_sij (a : Str) {i j : Int} (h : i = j) : PyData.eqv (.tuple [.str a, .int i]) (.tuple [.str a, .int j]) = true := by
  subst h
  rw [show PyData.eqv (.tuple [.str a, .int i]) (.tuple [.str a, .int i]) = PyData.eqvAll [.str a, .int i] [.str a, .int i] by unfold PyData.eqv; rfl]
  simp [PyData.eqvAll, PyData.eqv]
theorem eqv_si (a : Str) (i : Int) : PyData.eqv (.tuple [.str a, .int i]) (.tuple [.str a, .int i]) = true := by
  rw [show PyData.eqv (.tuple [.str a, .int i]) (.tuple [.str a, .int i]) = PyData.eqvAll [.str a, .int i] [.str a, .int i] by unfold PyData.eqv; rfl]
  simp [PyData.eqvAll, PyData.eqv]
def spLaw (K : PySem.W.Frag) : Sp := fun vs H Q _ => ∃ (a : Addr) (ns : List Int), vs = [.ref a] ∧ SqL K H a (ns.map V.int) ∧ ns.length ≤ 63 ∧ ∀ H', Q (.bl true) H'
theorem ok_law {f : Addr} {fd : FuncData} (F : Fun K "law" "law" s_law f fd) (L : Lib P K mg A) (Z : Mth mg) (D : Fd w L) : FnOk P w K mg base CX0 12 f fd ["script"] (spLaw K) := by
  have G_law_begin : FnOk P w K mg base CX0 1 L.law_begin.f L.law_begin.fd ["script", "k"] (spBegin K) := ok_law_begin L
  have G_law_number : FnOk P w K mg base CX0 3 L.law_number.f L.law_number.fd ["state"] (spNumber K) := ok_law_number L
  have G_law_draw : FnOk P w K mg base CX0 2 L.law_draw.f L.law_draw.fd ["state", "many"] (spDraw K) := ok_law_draw L
  have G_law_pick : FnOk P w K mg base CX0 3 L.law_pick.f L.law_pick.fd ["state", "row"] (spPick K) := ok_law_pick L
  have G_law_pickS : FnOk P w K mg base CX0 3 L.law_pick.f L.law_pick.fd ["state", "row"] (spPickS K) := ok_law_pickS L
  have G_law_root : FnOk P w K mg base CX0 10 L.law_root.f L.law_root.fd ["a"] (spOne 1) := ok_law_root L Z D
  have G_law_divisor : FnOk P w K mg base CX0 10 L.law_divisor.f L.law_divisor.fd ["a", "b"] spTwoI := ok_law_divisor L Z D
  have G_law_power : FnOk P w K mg base CX0 10 L.law_power.f L.law_power.fd ["a", "b"] spPower := ok_law_power L Z D
  have G_law_base : FnOk P w K mg base CX0 10 L.law_base.f L.law_base.fd ["a", "b"] spBaseL := ok_law_base L Z D
  have G_law_no_number : FnOk P w K mg base CX0 10 L.law_no_number.f L.law_no_number.fd ["text", "b"] spNoNum := ok_law_no_number L Z D
  have G_law_call : FnOk P w K mg base CX0 9 L.law_call.f L.law_call.fd ["name", "values"] (spCall K A) := ok_law_call L Z D
  refine F.ok sc_law (fun vs H Q E h => ?_) (fun cdv A' outer s H vs Q E hr h => ?_)
  · obtain ⟨a, ns, rfl, _⟩ := h
    rfl
  · obtain ⟨sa, ns, rfl, hS, hn, q⟩ := h
    refine ⟨_, (pss_cons (ps_set (i := 1) sc_law.nd rfl (.inl rfl) (pe_call G_law_begin (hr.mono (by omega)) (by rfl) L.law_begin.g L.law_begin.F.kp L.law_begin.b .nil pass0 (pa_cons (pv 0) (pa_cons pe_int pa_nil))))
      (pss_cons (ps_for PassesOwn.never rfl (pi_range1 (by rfl) L.z_range (pa_cons (pe_callB (call_min2 rfl) (by rfl) L.z_min (by decide +kernel) (pa_cons pe_int (pa_cons (pe_callB (call_max2 rfl) (by rfl) L.z_max (by decide +kernel) (pa_cons pe_int (pa_cons (pe_callB call_len_seq (by rfl) L.z_len PySem.boot_len (pa_cons (pv 0) pa_nil)) pa_nil))) pa_nil))) pa_nil)) (pg_name (i := 2) sc_law.nd rfl (.inl rfl))
        (pss_cons (ps_set (i := 3) sc_law.nd rfl (.inl rfl) (pe_call G_law_number (hr.mono (by omega)) (by rfl) L.law_number.g L.law_number.F.kp L.law_number.b .nil pass0 (pa_cons (pv 1) pa_nil)))
      (pss_cons (ps_set (i := 4) sc_law.nd rfl (.inl rfl) (pe_call G_law_number (hr.mono (by omega)) (by rfl) L.law_number.g L.law_number.F.kp L.law_number.b .nil pass0 (pa_cons (pv 1) pa_nil)))
      (pss_cons (ps_if (PW.pt (pw_or (pt_not (pt_val (pe_call G_law_root (hr.mono (by omega)) (by rfl) L.law_root.g L.law_root.F.kp L.law_root.b .nil pass0 (pa_cons (pv 3) pa_nil)))) (pw_or1 (pt_not (pt_val (pe_call G_law_divisor (hr.mono (by omega)) (by rfl) L.law_divisor.g L.law_divisor.F.kp L.law_divisor.b .nil pass0 (pa_cons (pv 3) (pa_cons (pv 4) pa_nil))))))))
        (pss_one (ps_ret pe_bl))
        pss_nil)
      (pss_cons (ps_set (i := 5) sc_law.nd rfl (.inl rfl) (pe_call G_law_pick (hr.mono (by omega)) (by rfl) L.law_pick.g L.law_pick.F.kp L.law_pick.b .nil pass0 (pa_cons (pv 1) (pa_cons (pe_tup (pa_cons pe_int (pa_cons pe_int (pa_cons pe_int (pa_cons pe_int (pa_cons pe_int (pa_cons pe_int (pa_cons pe_int (pa_cons pe_int (pa_cons pe_int (pa_cons (pe_un un_neg pe_int) (pa_cons (pe_un un_neg pe_int) (pa_cons (pe_call G_law_draw (hr.mono (by omega)) (by rfl) L.law_draw.g L.law_draw.F.kp L.law_draw.b .nil pass0 (pa_cons (pv 1) (pa_cons pe_int pa_nil))) pa_nil))))))))))))) pa_nil))))
      (pss_cons (ps_if (pt_not (pt_val (pe_call G_law_power (hr.mono (by omega)) (by rfl) L.law_power.g L.law_power.F.kp L.law_power.b .nil pass0 (pa_cons (pe_call G_law_pick (hr.mono (by omega)) (by rfl) L.law_pick.g L.law_pick.F.kp L.law_pick.b .nil pass0 (pa_cons (pv 1) (pa_cons (pe_tup (pa_cons (pv 3) (pa_cons pe_int (pa_cons (pe_un un_neg pe_int) (pa_cons pe_int (pa_cons pe_int (pa_cons (pe_un un_neg pe_int) pa_nil))))))) pa_nil))) (pa_cons (pv 5) pa_nil)))))
        (pss_one (ps_ret pe_bl))
        pss_nil)
      (pss_cons (ps_if (PW.pt (pw_or (pt_cmpR (op_neD (units64 hr)) (pe_call G_law_call (hr.mono (by omega)) (by rfl) L.law_call.g L.law_call.F.kp L.law_call.b .nil pass0 (pa_cons pe_str (pa_cons (pe_lst (pa_cons (pv 3) pa_nil)) pa_nil))) (pe_tup (pa_cons pe_str (pa_cons (pe_callB call_abs (by rfl) L.z_abs (by decide +kernel) (pa_cons (pv 3) pa_nil)) pa_nil))) (nomark _)) (pw_or1 (pt_not (pt_val (pe_call G_law_base (hr.mono (by omega)) (by rfl) L.law_base.g L.law_base.F.kp L.law_base.b .nil pass0 (pa_cons (pv 3) (pa_cons (pe_call G_law_draw (hr.mono (by omega)) (by rfl) L.law_draw.g L.law_draw.F.kp L.law_draw.b .nil pass0 (pa_cons (pv 1) (pa_cons pe_int pa_nil))) pa_nil))))))))
        (pss_one (ps_ret pe_bl))
        pss_nil)
      (pss_cons (ps_set (i := 6) sc_law.nd rfl (.inl rfl) pe_str)
      (pss_cons (ps_for PassesOwn.never rfl (pi_range1 (by rfl) L.z_range (pa_cons (pe_call G_law_draw (hr.mono (by omega)) (by rfl) L.law_draw.g L.law_draw.F.kp L.law_draw.b .nil pass0 (pa_cons (pv 1) (pa_cons pe_int pa_nil))) pa_nil)) (pg_name (i := 7) sc_law.nd rfl (.inl rfl))
        (pss_one (ps_set (i := 6) sc_law.nd rfl (.inl rfl) (pe_op op_add_str (pv 6) (pe_call G_law_pickS (hr.mono (by omega)) (by rfl) L.law_pick.g L.law_pick.F.kp L.law_pick.b .nil pass0 (pa_cons (pv 1) (pa_cons pe_str pa_nil)))))))
      (pss_cons (ps_if (pt_not (pt_val (pe_call G_law_no_number (hr.mono (by omega)) (by rfl) L.law_no_number.g L.law_no_number.F.kp L.law_no_number.b .nil pass0 (pa_cons (pv 6) (pa_cons (pe_op op_add pe_int (pe_call G_law_draw (hr.mono (by omega)) (by rfl) L.law_draw.g L.law_draw.F.kp L.law_draw.b .nil pass0 (pa_cons (pv 1) (pa_cons pe_int pa_nil)))) pa_nil)))))
        (pss_one (ps_ret pe_bl))
        pss_nil)
      (pss_one (ps_if (pt_not (pt_val (pe_call G_law_no_number (hr.mono (by omega)) (by rfl) L.law_no_number.g L.law_no_number.F.kp L.law_no_number.b .nil pass0 (pa_cons (pe_op op_mul_str pe_str (pe_op op_add pe_int (pe_call G_law_draw (hr.mono (by omega)) (by rfl) L.law_draw.g L.law_draw.F.kp L.law_draw.b .nil pass0 (pa_cons (pv 1) (pa_cons pe_int pa_nil))))) (pa_cons pe_int pa_nil)))))
        (pss_one (ps_ret pe_bl))
        pss_nil))))))))))))
      (pss_one (ps_ret pe_bl)))), ?_⟩
    refine ⟨_, rfl, sa, ns, 0, rfl, hS, Int.le_refl _, fun H0 p _ s0 st0 => ?_⟩
    have hs0 := s0.seq hS
    refine ⟨_, rfl, sa, _, rfl, .inl hs0, _, _, rfl, ?_⟩
    refine ⟨_, _, rfl, _, rfl, ?_, ?_, for_range (fun i σ H' => ∃ y2 y3 y4 y5 y6 y7 : Option V, σ = [some (.ref sa), some (.ref p), y2, y3, y4, y5, y6, y7] ∧ StL K H' sa p ns) ⟨none, none, none, none, none, none, rfl, st0⟩ ?_ ?_⟩
    · (repeat' split) <;> omega
    · (repeat' split) <;> omega
    · rintro i σ H1 hi ⟨y2, y3, y4, y5, y6, y7, rfl, st1⟩
      refine ⟨_, rfl, sa, p, ns, rfl, st1, fun H2 a _ st2 ha => ?_⟩
      refine ⟨_, rfl, sa, p, ns, rfl, st2, fun H3 b _ st3 hb => ?_⟩
      refine ⟨_, rfl, a, rfl, ha, fun H4 s4 => ⟨_, rfl, iteF ?_⟩⟩
      refine ⟨_, rfl, _, rfl, a, b, rfl, ha, hb, fun H5 s5 => ⟨_, rfl, iteF ?_⟩⟩
      have st5 := (st3.same s4).same s5
      refine ⟨_, rfl, 1, rfl, 7, rfl, _, rfl, sa, p, ns, 1200, rfl, st5, by decide, by decide, fun H6 r _ st6 r0 r1 => ?_⟩
      refine ⟨(by show 12 ≤ sizeLine; decide), fun u hu => ⟨sa, p, u, ns, _, rfl, st6.same (same_upd hu), SqT.of upd_same, (by show 0 < 12; decide), (by show 12 ≤ 100; decide), fun H7 v hv _ st7 => ?_⟩⟩
      obtain ⟨e, rfl, he⟩ : ∃ e : Int, v = .int e ∧ e ≤ 1200 := by
        simp only [List.mem_cons, List.not_mem_nil, or_false] at hv
        rcases hv with h | h | h | h | h | h | h | h | h | h | h | h
        all_goals exact ⟨_, h, by omega⟩
      refine ⟨_, rfl, _, rfl, 3, rfl, 1, rfl, (by show 6 ≤ sizeLine; decide), fun u2 hu2 => ⟨sa, p, u2, ns, _, rfl, st7.same (same_upd hu2), SqT.of upd_same, (by show 0 < 6; decide), (by show 6 ≤ 100; decide), fun H8 v hv _ st8 => ?_⟩⟩
      obtain ⟨x, rfl, hx⟩ : ∃ x : Int, v = .int x ∧ x.natAbs < big := by
        have b4 : (1000 : Nat) < big := small_big (by decide)
        simp only [List.mem_cons, List.not_mem_nil, or_false] at hv
        rcases hv with h | h | h | h | h | h
        all_goals exact ⟨_, h, by omega⟩
      refine ⟨_, rfl, x, e, rfl, hx, he, fun H9 s9 => ⟨_, rfl, iteF ?_⟩⟩
      have st9 := st8.same s9
      refine ⟨_, rfl, (by show 1 ≤ sizeLine; decide), fun l hl => ⟨l, .abs a, rfl, SqL.of upd_same, fun H10 s10 => ?_⟩⟩
      intro H11 t s11 ht
      have st11 := (((st9.same (same_upd hl)).same s10).same s11).same (same_upd (o := .tup [.str "told", .int (absI a)]) ht)
      refine ⟨_, rfl, a, rfl, (by show 2 ≤ sizeLine; decide), fun t2 ht2 => ?_⟩
      have st12 := st11.same (same_upd (o := .tup [.str "told", .int (if a < 0 then -a else a)]) ht2)
      refine ⟨_, _, si_dp ((same_upd ht2) _ _ upd_same), si_dp upd_same, si_shape (by decide +kernel), si_shape (by decide +kernel), _, rfl, ?_⟩
      rw [eqv_sij "told" (show absI a = if a < 0 then -a else a from rfl)]
      refine iteF ?_
      refine ⟨_, rfl, _, rfl, sa, p, ns, 41, rfl, st12, by decide, by decide, fun H12 r2 _ st13 r20 r21 => ⟨a, r2, rfl, ha, r20, by omega, fun H13 s13 => ⟨_, rfl, iteF ?_⟩⟩⟩
      have st14 := st13.same s13
      refine ⟨_, rfl, sa, p, ns, 7, rfl, st14, by decide, by decide, fun H14 m _ st15 m0 m1 => ⟨m, rfl, by omega, by omega, for_range (fun j σ H' => ∃ (l : List Nat) (y7 : Option V), σ = [some (.ref sa), some (.ref p), some (.int (0 + i)), some (.int a), some (.int b), some (.int e), some (.str (S l)), y7] ∧ l.length = j ∧ (∀ c ∈ l, c ∈ AL) ∧ StL K H' sa p ns) ⟨[], y7, rfl, rfl, nofun, st15⟩ ?_ ?_⟩⟩
      · rintro j σ H15 hj ⟨l, y7', rfl, hll, hal, st16⟩
        refine ⟨_, rfl, _, rfl, sa, p, ns, rfl, st16, fun H16 c hc _ st17 => ?_⟩
        refine ⟨_, _, rfl, rfl, ?_, l ++ [c], some (.int (0 + j)), ?_, by rw [List.length_append, hll]; rfl, fun d hd => ?_, st17⟩
        · rw [S_len, S_len, List.length_singleton]
          exact Nat.le_trans (m := 100) (by omega) (by decide)
        · rw [S_cat]
          rfl
        · rcases List.mem_append.mp hd with hd | hd
          · exact hal d hd
          · rw [List.mem_singleton.mp hd]
            exact hc
      · rintro σ H15 ⟨l, y7', rfl, hll, hal, st16⟩
        refine ⟨_, rfl, _, rfl, sa, p, ns, 35, rfl, st16, by decide, by decide, fun H17 r3 _ st18 a0 a1 => ⟨_, _, rfl, rfl, l, 2 + r3, rfl, by omega, by omega, by omega, hal, fun H18 s18 => ⟨_, rfl, iteF ?_⟩⟩⟩
        have st19 := st18.same s18
        refine ⟨_, rfl, sa, p, ns, 4, rfl, st19, by decide, by decide, fun H19 r4 _ st20 c0 c1 => ⟨_, _, rfl, rfl, _, _, rfl, rfl, nines_ok (by omega) (by omega), List.replicate (299 + r4).toNat 57, 10, ?_, ?_, by decide, by decide, ?_, fun H20 s20 => ⟨_, rfl, iteF ⟨_, _, _, _, _, _, rfl, st20.same s20⟩⟩⟩⟩
        · rw [nines]
          rfl
        · rw [List.length_replicate]
          omega
        · intro c hc
          rw [(List.mem_replicate.mp hc).2]
          decide
    · rintro σ H1 ⟨y2, y3, y4, y5, y6, y7, rfl, st1⟩
      exact q _
end
end My
namespace My
open PySem L2 SX XT XS XE XD XL XZ
set_option maxHeartbeats 0 in
theorem all_mk {l : PySem.W.OpenLaw} {w : World} {K : PySem.W.Frag} {h : Heap} {mg : Str → Option Value} {fa cRef cParts cTable cInstance cKin cCopies cForm cStore cLivequillError cWaiting cScriptError fScriptError cdaScriptError ccScriptError a_tagged a_kind_of a_kind_of_thing a_is_true a_equal a_is_key a_check_size a_is_bounded a_checked_integer a_check_count a_check_arguments a_check_kind a_check_alike a_copy_of a_is_holder a_fill a_same a_pairs_within a_raised a_small_power a_root_of a_check_base a_written_in a_read_in a_place_of_digit a_make_list a_quoted a_write_value a_text_of a_write a_write_around a_write_held a_held_by a_plain_form a_joined a_call_builtin a_print_line a_integers_between a_least a_greatest a_choices a_read_line a_as_text a_as_integer a_length a_kind a_without_sign a_power a_divisor a_root a_in_base a_from_base a_character a_assert_true a_copy a_equals a_law_cell a_law_is_integer a_law_begin a_law_draw a_law_pick a_law_greatest a_law_number a_law_call a_law_root a_law_divisor a_law_power a_law_digits a_law_base a_law_no_number a_law a_Ref_init a_Ref_eq a_Parts_init a_Table_init a_Table_has a_Table_value_of a_Table_put a_Table_pairs a_Table_many p_Table_many a_Instance_init a_Kin_init a_Copies_init a_Copies_copy_for a_Form_init a_Form_add a_Form_is_enough a_Store_init a_Store_make a_Store_at aFR aFU tA0 qA0 tA1 qA1 tA2 qA2 tA3 qA3 tA4 qA4 tA5 qA5 : Addr} (X : K.In h) (G : h.Ns mainGlobals mg) (hfa : mg "law" = some (.ref fa))
    {nmScriptError qScriptError flScriptError : Str}
    {NScriptError : Addr}
    {bsScriptError subScriptError rsf_Table_many : List Value}
    {snScriptError : List Str}
    {abScriptError : Bool}
    {colScriptError : Option Bool}
    {ddScriptError odScriptError anScriptError cddScriptError cldScriptError odf_tagged anf_tagged odf_kind_of anf_kind_of odf_kind_of_thing anf_kind_of_thing odf_is_true anf_is_true odf_equal anf_equal odf_is_key anf_is_key odf_check_size anf_check_size odf_is_bounded anf_is_bounded odf_checked_integer anf_checked_integer odf_check_count anf_check_count odf_check_arguments anf_check_arguments odf_check_kind anf_check_kind odf_check_alike anf_check_alike odf_copy_of anf_copy_of odf_is_holder anf_is_holder odf_fill anf_fill odf_same anf_same odf_pairs_within anf_pairs_within odf_raised anf_raised odf_small_power anf_small_power odf_root_of anf_root_of odf_check_base anf_check_base odf_written_in anf_written_in odf_read_in anf_read_in odf_place_of_digit anf_place_of_digit odf_make_list anf_make_list odf_quoted anf_quoted odf_write_value anf_write_value odf_text_of anf_text_of odf_write anf_write odf_write_around anf_write_around odf_write_held anf_write_held odf_held_by anf_held_by odf_plain_form anf_plain_form odf_joined anf_joined odf_call_builtin anf_call_builtin odf_print_line anf_print_line odf_integers_between anf_integers_between odf_least anf_least odf_greatest anf_greatest odf_choices anf_choices odf_read_line anf_read_line odf_as_text anf_as_text odf_as_integer anf_as_integer odf_length anf_length odf_kind anf_kind odf_without_sign anf_without_sign odf_power anf_power odf_divisor anf_divisor odf_root anf_root odf_in_base anf_in_base odf_from_base anf_from_base odf_character anf_character odf_assert_true anf_assert_true odf_copy anf_copy odf_equals anf_equals odf_law_cell anf_law_cell odf_law_is_integer anf_law_is_integer odf_law_begin anf_law_begin odf_law_draw anf_law_draw odf_law_pick anf_law_pick odf_law_greatest anf_law_greatest odf_law_number anf_law_number odf_law_call anf_law_call odf_law_root anf_law_root odf_law_divisor anf_law_divisor odf_law_power anf_law_power odf_law_digits anf_law_digits odf_law_base anf_law_base odf_law_no_number anf_law_no_number odlaw anlaw odf_Ref_init anf_Ref_init odf_Ref_eq anf_Ref_eq odf_Parts_init anf_Parts_init odf_Table_init anf_Table_init odf_Table_has anf_Table_has odf_Table_value_of anf_Table_value_of odf_Table_put anf_Table_put odf_Table_pairs anf_Table_pairs odf_Table_many anf_Table_many odf_Instance_init anf_Instance_init odf_Kin_init anf_Kin_init odf_Copies_init anf_Copies_init odf_Copies_copy_for anf_Copies_copy_for odf_Form_init anf_Form_init odf_Form_add anf_Form_add odf_Form_is_enough anf_Form_is_enough odf_Store_init anf_Store_init odf_Store_make anf_Store_make odf_Store_at anf_Store_at tD0 qD0 tD1 qD1 tD2 qD2 tD3 qD3 tD4 qD4 tD5 qD5 : Option Addr}
    {m0ScriptError m1ScriptError m2ScriptError m3ScriptError m5ScriptError : Option Value}
    {slScriptError ccsScriptError cslScriptError slf_tagged slf_kind_of slf_kind_of_thing slf_is_true slf_equal slf_is_key slf_check_size slf_is_bounded slf_checked_integer slf_check_count slf_check_arguments slf_check_kind slf_check_alike slf_copy_of slf_is_holder slf_fill slf_same slf_pairs_within slf_raised slf_small_power slf_root_of slf_check_base slf_written_in slf_read_in slf_place_of_digit slf_make_list slf_quoted slf_write_value slf_text_of slf_write slf_write_around slf_write_held slf_held_by slf_plain_form slf_joined slf_call_builtin slf_print_line slf_integers_between slf_least slf_greatest slf_choices slf_read_line slf_as_text slf_as_integer slf_length slf_kind slf_without_sign slf_power slf_divisor slf_root slf_in_base slf_from_base slf_character slf_assert_true slf_copy slf_equals slf_law_cell slf_law_is_integer slf_law_begin slf_law_draw slf_law_pick slf_law_greatest slf_law_number slf_law_call slf_law_root slf_law_divisor slf_law_power slf_law_digits slf_law_base slf_law_no_number sllaw slf_Ref_init slf_Ref_eq slf_Parts_init slf_Table_init slf_Table_has slf_Table_value_of slf_Table_put slf_Table_pairs slf_Table_many slf_Instance_init slf_Kin_init slf_Copies_init slf_Copies_copy_for slf_Form_init slf_Form_add slf_Form_is_enough slf_Store_init slf_Store_make slf_Store_at tO0 qO0 tO1 qO1 tO2 qO2 tO3 qO3 tO4 qO4 tO5 qO5 : Array (Option Value)}
    {ocScriptError kVScriptError dcScriptError pmScriptError ctScriptError cclScriptError cl_ScriptError ocf_tagged kVf_tagged dcf_tagged pmf_tagged cdf_tagged ctf_tagged ocf_kind_of kVf_kind_of dcf_kind_of pmf_kind_of cdf_kind_of ctf_kind_of ocf_kind_of_thing kVf_kind_of_thing dcf_kind_of_thing pmf_kind_of_thing cdf_kind_of_thing ctf_kind_of_thing ocf_is_true kVf_is_true dcf_is_true pmf_is_true cdf_is_true ctf_is_true ocf_equal kVf_equal dcf_equal pmf_equal cdf_equal ctf_equal ocf_is_key kVf_is_key dcf_is_key pmf_is_key cdf_is_key ctf_is_key ocf_check_size kVf_check_size dcf_check_size pmf_check_size cdf_check_size ctf_check_size ocf_is_bounded kVf_is_bounded dcf_is_bounded pmf_is_bounded cdf_is_bounded ctf_is_bounded ocf_checked_integer kVf_checked_integer dcf_checked_integer pmf_checked_integer cdf_checked_integer ctf_checked_integer ocf_check_count kVf_check_count dcf_check_count pmf_check_count cdf_check_count ctf_check_count ocf_check_arguments kVf_check_arguments dcf_check_arguments pmf_check_arguments cdf_check_arguments ctf_check_arguments ocf_check_kind kVf_check_kind dcf_check_kind pmf_check_kind cdf_check_kind ctf_check_kind ocf_check_alike kVf_check_alike dcf_check_alike pmf_check_alike cdf_check_alike ctf_check_alike ocf_copy_of kVf_copy_of dcf_copy_of pmf_copy_of cdf_copy_of ctf_copy_of ocf_is_holder kVf_is_holder dcf_is_holder pmf_is_holder cdf_is_holder ctf_is_holder ocf_fill kVf_fill dcf_fill pmf_fill cdf_fill ctf_fill ocf_same kVf_same dcf_same pmf_same cdf_same ctf_same ocf_pairs_within kVf_pairs_within dcf_pairs_within pmf_pairs_within cdf_pairs_within ctf_pairs_within ocf_raised kVf_raised dcf_raised pmf_raised cdf_raised ctf_raised ocf_small_power kVf_small_power dcf_small_power pmf_small_power cdf_small_power ctf_small_power ocf_root_of kVf_root_of dcf_root_of pmf_root_of cdf_root_of ctf_root_of ocf_check_base kVf_check_base dcf_check_base pmf_check_base cdf_check_base ctf_check_base ocf_written_in kVf_written_in dcf_written_in pmf_written_in cdf_written_in ctf_written_in ocf_read_in kVf_read_in dcf_read_in pmf_read_in cdf_read_in ctf_read_in ocf_place_of_digit kVf_place_of_digit dcf_place_of_digit pmf_place_of_digit cdf_place_of_digit ctf_place_of_digit ocf_make_list kVf_make_list dcf_make_list pmf_make_list cdf_make_list ctf_make_list ocf_quoted kVf_quoted dcf_quoted pmf_quoted cdf_quoted ctf_quoted ocf_write_value kVf_write_value dcf_write_value pmf_write_value cdf_write_value ctf_write_value ocf_text_of kVf_text_of dcf_text_of pmf_text_of cdf_text_of ctf_text_of ocf_write kVf_write dcf_write pmf_write cdf_write ctf_write ocf_write_around kVf_write_around dcf_write_around pmf_write_around cdf_write_around ctf_write_around ocf_write_held kVf_write_held dcf_write_held pmf_write_held cdf_write_held ctf_write_held ocf_held_by kVf_held_by dcf_held_by pmf_held_by cdf_held_by ctf_held_by ocf_plain_form kVf_plain_form dcf_plain_form pmf_plain_form cdf_plain_form ctf_plain_form ocf_joined kVf_joined dcf_joined pmf_joined cdf_joined ctf_joined ocf_call_builtin kVf_call_builtin dcf_call_builtin pmf_call_builtin cdf_call_builtin ctf_call_builtin ocf_print_line kVf_print_line dcf_print_line pmf_print_line cdf_print_line ctf_print_line ocf_integers_between kVf_integers_between dcf_integers_between pmf_integers_between cdf_integers_between ctf_integers_between ocf_least kVf_least dcf_least pmf_least cdf_least ctf_least ocf_greatest kVf_greatest dcf_greatest pmf_greatest cdf_greatest ctf_greatest ocf_choices kVf_choices dcf_choices pmf_choices cdf_choices ctf_choices ocf_read_line kVf_read_line dcf_read_line pmf_read_line cdf_read_line ctf_read_line ocf_as_text kVf_as_text dcf_as_text pmf_as_text cdf_as_text ctf_as_text ocf_as_integer kVf_as_integer dcf_as_integer pmf_as_integer cdf_as_integer ctf_as_integer ocf_length kVf_length dcf_length pmf_length cdf_length ctf_length ocf_kind kVf_kind dcf_kind pmf_kind cdf_kind ctf_kind ocf_without_sign kVf_without_sign dcf_without_sign pmf_without_sign cdf_without_sign ctf_without_sign ocf_power kVf_power dcf_power pmf_power cdf_power ctf_power ocf_divisor kVf_divisor dcf_divisor pmf_divisor cdf_divisor ctf_divisor ocf_root kVf_root dcf_root pmf_root cdf_root ctf_root ocf_in_base kVf_in_base dcf_in_base pmf_in_base cdf_in_base ctf_in_base ocf_from_base kVf_from_base dcf_from_base pmf_from_base cdf_from_base ctf_from_base ocf_character kVf_character dcf_character pmf_character cdf_character ctf_character ocf_assert_true kVf_assert_true dcf_assert_true pmf_assert_true cdf_assert_true ctf_assert_true ocf_copy kVf_copy dcf_copy pmf_copy cdf_copy ctf_copy ocf_equals kVf_equals dcf_equals pmf_equals cdf_equals ctf_equals ocf_law_cell kVf_law_cell dcf_law_cell pmf_law_cell cdf_law_cell ctf_law_cell ocf_law_is_integer kVf_law_is_integer dcf_law_is_integer pmf_law_is_integer cdf_law_is_integer ctf_law_is_integer ocf_law_begin kVf_law_begin dcf_law_begin pmf_law_begin cdf_law_begin ctf_law_begin ocf_law_draw kVf_law_draw dcf_law_draw pmf_law_draw cdf_law_draw ctf_law_draw ocf_law_pick kVf_law_pick dcf_law_pick pmf_law_pick cdf_law_pick ctf_law_pick ocf_law_greatest kVf_law_greatest dcf_law_greatest pmf_law_greatest cdf_law_greatest ctf_law_greatest ocf_law_number kVf_law_number dcf_law_number pmf_law_number cdf_law_number ctf_law_number ocf_law_call kVf_law_call dcf_law_call pmf_law_call cdf_law_call ctf_law_call ocf_law_root kVf_law_root dcf_law_root pmf_law_root cdf_law_root ctf_law_root ocf_law_divisor kVf_law_divisor dcf_law_divisor pmf_law_divisor cdf_law_divisor ctf_law_divisor ocf_law_power kVf_law_power dcf_law_power pmf_law_power cdf_law_power ctf_law_power ocf_law_digits kVf_law_digits dcf_law_digits pmf_law_digits cdf_law_digits ctf_law_digits ocf_law_base kVf_law_base dcf_law_base pmf_law_base cdf_law_base ctf_law_base ocf_law_no_number kVf_law_no_number dcf_law_no_number pmf_law_no_number cdf_law_no_number ctf_law_no_number oclaw kVlaw dclaw pmlaw cdlaw ctlaw ocf_Ref_init kVf_Ref_init dcf_Ref_init pmf_Ref_init cdf_Ref_init ctf_Ref_init ocf_Ref_eq kVf_Ref_eq dcf_Ref_eq pmf_Ref_eq cdf_Ref_eq ctf_Ref_eq ocf_Parts_init kVf_Parts_init dcf_Parts_init pmf_Parts_init cdf_Parts_init ctf_Parts_init ocf_Table_init kVf_Table_init dcf_Table_init pmf_Table_init cdf_Table_init ctf_Table_init ocf_Table_has kVf_Table_has dcf_Table_has pmf_Table_has cdf_Table_has ctf_Table_has ocf_Table_value_of kVf_Table_value_of dcf_Table_value_of pmf_Table_value_of cdf_Table_value_of ctf_Table_value_of ocf_Table_put kVf_Table_put dcf_Table_put pmf_Table_put cdf_Table_put ctf_Table_put ocf_Table_pairs kVf_Table_pairs dcf_Table_pairs pmf_Table_pairs cdf_Table_pairs ctf_Table_pairs ocf_Table_many kVf_Table_many dcf_Table_many pmf_Table_many cdf_Table_many ctf_Table_many ocf_Instance_init kVf_Instance_init dcf_Instance_init pmf_Instance_init cdf_Instance_init ctf_Instance_init ocf_Kin_init kVf_Kin_init dcf_Kin_init pmf_Kin_init cdf_Kin_init ctf_Kin_init ocf_Copies_init kVf_Copies_init dcf_Copies_init pmf_Copies_init cdf_Copies_init ctf_Copies_init ocf_Copies_copy_for kVf_Copies_copy_for dcf_Copies_copy_for pmf_Copies_copy_for cdf_Copies_copy_for ctf_Copies_copy_for ocf_Form_init kVf_Form_init dcf_Form_init pmf_Form_init cdf_Form_init ctf_Form_init ocf_Form_add kVf_Form_add dcf_Form_add pmf_Form_add cdf_Form_add ctf_Form_add ocf_Form_is_enough kVf_Form_is_enough dcf_Form_is_enough pmf_Form_is_enough cdf_Form_is_enough ctf_Form_is_enough ocf_Store_init kVf_Store_init dcf_Store_init pmf_Store_init cdf_Store_init ctf_Store_init ocf_Store_make kVf_Store_make dcf_Store_make pmf_Store_make cdf_Store_make ctf_Store_make ocf_Store_at kVf_Store_at dcf_Store_at pmf_Store_at cdf_Store_at ctf_Store_at : Value}
    {cvsScriptError tI0 qI0 tI1 qI1 tI2 qI2 tI3 qI3 tI4 qI4 tI5 qI5 : Array Value}
    {tfScriptError tkPERCENT tkMOST_HELD tkDOUBTFUL_BITS tkDIGITS tkCAPITALS tkLEAST_BASE tkMOST_BASE tkMOST_AROUND tkNEWLINE tkFIRST tkLAST : Tok}
    {esFR esFU : Array DictEntry}
    {nnFR nnFU tN0 qN0 tN1 qN1 tN2 qN2 tN3 qN3 tN4 qN4 tN5 qN5 : Nat}
    (uRef : PySem.W.nsIn K mainGlobals "Ref" = some (some (.ref cRef)))
    (mkRef : PySem.W.makesIn K cRef = true)
    (kcRef : PySem.W.keepIn K (.ref cRef) = true)
    (pgRef : PySem.W.plainGet K cRef Str.empty = true)
    (hdRef : PySem.W.hasDictIn K cRef = true)
    (poRef : PySem.W.plainOver K cRef = true)
    (saRef : PySem.W.findIn K (.ref cRef) "__setattr__" = some (some (.builtin "object.__setattr__")))
    (nRef_number : PySem.W.findIn K (.ref cRef) "number" = some none)
    (hnTy : PySem.W.specialIn K (.builtin "object.__class__") "__get__" = some (some (.builtin "getset_descriptor.__get__")))
    (htTy : PySem.W.takesIn K (.builtin "object.__class__") = some true)
    (haRef : PySem.W.findIn K (.ref cRef) "__class__" = some (some (.builtin "object.__class__")))
    (hmRef : PySem.W.mroIn K cRef (.type "object") = some true)
    (uParts : PySem.W.nsIn K mainGlobals "Parts" = some (some (.ref cParts)))
    (mkParts : PySem.W.makesIn K cParts = true)
    (kcParts : PySem.W.keepIn K (.ref cParts) = true)
    (pgParts : PySem.W.plainGet K cParts Str.empty = true)
    (hdParts : PySem.W.hasDictIn K cParts = true)
    (poParts : PySem.W.plainOver K cParts = true)
    (saParts : PySem.W.findIn K (.ref cParts) "__setattr__" = some (some (.builtin "object.__setattr__")))
    (nParts_held : PySem.W.findIn K (.ref cParts) "held" = some none)
    (haParts : PySem.W.findIn K (.ref cParts) "__class__" = some (some (.builtin "object.__class__")))
    (hmParts : PySem.W.mroIn K cParts (.type "object") = some true)
    (uTable : PySem.W.nsIn K mainGlobals "Table" = some (some (.ref cTable)))
    (mkTable : PySem.W.makesIn K cTable = true)
    (kcTable : PySem.W.keepIn K (.ref cTable) = true)
    (pgTable : PySem.W.plainGet K cTable Str.empty = true)
    (hdTable : PySem.W.hasDictIn K cTable = true)
    (poTable : PySem.W.plainOver K cTable = true)
    (saTable : PySem.W.findIn K (.ref cTable) "__setattr__" = some (some (.builtin "object.__setattr__")))
    (nTable__entries : PySem.W.findIn K (.ref cTable) "_entries" = some none)
    (haTable : PySem.W.findIn K (.ref cTable) "__class__" = some (some (.builtin "object.__class__")))
    (hmTable : PySem.W.mroIn K cTable (.type "object") = some true)
    (uInstance : PySem.W.nsIn K mainGlobals "Instance" = some (some (.ref cInstance)))
    (mkInstance : PySem.W.makesIn K cInstance = true)
    (kcInstance : PySem.W.keepIn K (.ref cInstance) = true)
    (pgInstance : PySem.W.plainGet K cInstance Str.empty = true)
    (hdInstance : PySem.W.hasDictIn K cInstance = true)
    (poInstance : PySem.W.plainOver K cInstance = true)
    (saInstance : PySem.W.findIn K (.ref cInstance) "__setattr__" = some (some (.builtin "object.__setattr__")))
    (nInstance_owner : PySem.W.findIn K (.ref cInstance) "owner" = some none)
    (nInstance_named : PySem.W.findIn K (.ref cInstance) "named" = some none)
    (haInstance : PySem.W.findIn K (.ref cInstance) "__class__" = some (some (.builtin "object.__class__")))
    (hmInstance : PySem.W.mroIn K cInstance (.type "object") = some true)
    (uKin : PySem.W.nsIn K mainGlobals "Kin" = some (some (.ref cKin)))
    (mkKin : PySem.W.makesIn K cKin = true)
    (kcKin : PySem.W.keepIn K (.ref cKin) = true)
    (pgKin : PySem.W.plainGet K cKin Str.empty = true)
    (hdKin : PySem.W.hasDictIn K cKin = true)
    (poKin : PySem.W.plainOver K cKin = true)
    (saKin : PySem.W.findIn K (.ref cKin) "__setattr__" = some (some (.builtin "object.__setattr__")))
    (nKin_name : PySem.W.findIn K (.ref cKin) "name" = some none)
    (nKin_parent : PySem.W.findIn K (.ref cKin) "parent" = some none)
    (nKin_methods : PySem.W.findIn K (.ref cKin) "methods" = some none)
    (haKin : PySem.W.findIn K (.ref cKin) "__class__" = some (some (.builtin "object.__class__")))
    (hmKin : PySem.W.mroIn K cKin (.type "object") = some true)
    (uCopies : PySem.W.nsIn K mainGlobals "Copies" = some (some (.ref cCopies)))
    (mkCopies : PySem.W.makesIn K cCopies = true)
    (kcCopies : PySem.W.keepIn K (.ref cCopies) = true)
    (pgCopies : PySem.W.plainGet K cCopies Str.empty = true)
    (hdCopies : PySem.W.hasDictIn K cCopies = true)
    (poCopies : PySem.W.plainOver K cCopies = true)
    (saCopies : PySem.W.findIn K (.ref cCopies) "__setattr__" = some (some (.builtin "object.__setattr__")))
    (nCopies_store : PySem.W.findIn K (.ref cCopies) "store" = some none)
    (nCopies_found : PySem.W.findIn K (.ref cCopies) "found" = some none)
    (nCopies_by_number : PySem.W.findIn K (.ref cCopies) "by_number" = some none)
    (haCopies : PySem.W.findIn K (.ref cCopies) "__class__" = some (some (.builtin "object.__class__")))
    (hmCopies : PySem.W.mroIn K cCopies (.type "object") = some true)
    (uForm : PySem.W.nsIn K mainGlobals "Form" = some (some (.ref cForm)))
    (mkForm : PySem.W.makesIn K cForm = true)
    (kcForm : PySem.W.keepIn K (.ref cForm) = true)
    (pgForm : PySem.W.plainGet K cForm Str.empty = true)
    (hdForm : PySem.W.hasDictIn K cForm = true)
    (poForm : PySem.W.plainOver K cForm = true)
    (saForm : PySem.W.findIn K (.ref cForm) "__setattr__" = some (some (.builtin "object.__setattr__")))
    (nForm_store : PySem.W.findIn K (.ref cForm) "store" = some none)
    (nForm_most : PySem.W.findIn K (.ref cForm) "most" = some none)
    (nForm_pieces : PySem.W.findIn K (.ref cForm) "pieces" = some none)
    (nForm_size : PySem.W.findIn K (.ref cForm) "size" = some none)
    (nForm_around : PySem.W.findIn K (.ref cForm) "around" = some none)
    (haForm : PySem.W.findIn K (.ref cForm) "__class__" = some (some (.builtin "object.__class__")))
    (hmForm : PySem.W.mroIn K cForm (.type "object") = some true)
    (uStore : PySem.W.nsIn K mainGlobals "Store" = some (some (.ref cStore)))
    (mkStore : PySem.W.makesIn K cStore = true)
    (kcStore : PySem.W.keepIn K (.ref cStore) = true)
    (pgStore : PySem.W.plainGet K cStore Str.empty = true)
    (hdStore : PySem.W.hasDictIn K cStore = true)
    (poStore : PySem.W.plainOver K cStore = true)
    (saStore : PySem.W.findIn K (.ref cStore) "__setattr__" = some (some (.builtin "object.__setattr__")))
    (nStore_things : PySem.W.findIn K (.ref cStore) "things" = some none)
    (nStore_output : PySem.W.findIn K (.ref cStore) "output" = some none)
    (nStore_lines : PySem.W.findIn K (.ref cStore) "lines" = some none)
    (nStore_taken : PySem.W.findIn K (.ref cStore) "taken" = some none)
    (haStore : PySem.W.findIn K (.ref cStore) "__class__" = some (some (.builtin "object.__class__")))
    (hmStore : PySem.W.mroIn K cStore (.type "object") = some true)
    (uLivequillError : PySem.W.nsIn K mainGlobals "LivequillError" = some (some (.ref cLivequillError)))
    (uWaiting : PySem.W.nsIn K mainGlobals "Waiting" = some (some (.ref cWaiting)))
    (uScriptError : PySem.W.nsIn K mainGlobals "ScriptError" = some (some (.ref cScriptError)))
    (xScriptError : K.lookup cScriptError = some (excClassObj nmScriptError qScriptError cScriptError NScriptError bsScriptError [.ref cLivequillError, .type "ValueError", .type "Exception", .type "BaseException", .type "object"] true snScriptError subScriptError abScriptError colScriptError ddScriptError m0ScriptError m1ScriptError m2ScriptError m3ScriptError m5ScriptError "ValueError.__new__"))
    (saScriptError : PySem.W.findIn K (.ref cScriptError) "__setattr__" = some (some (.builtin "object.__setattr__")))
    (exScriptError : PySem.W.subIn K (.ref cScriptError) (.type "BaseException") = some true)
    (tpScriptError : PySem.W.typeIn K (.ref cScriptError) = some (.type "type"))
    (kpScriptError : PySem.W.keepIn K (.ref cScriptError) = true)
    (n1ScriptError : PySem.W.findIn K (.ref cScriptError) "kind" = some none)
    (n2ScriptError : PySem.W.findIn K (.ref cScriptError) "message" = some none)
    (iScriptError : PySem.W.findIn K (.ref cScriptError) "__init__" = some (some (.ref fScriptError)))
    (tiScriptError : PySem.W.typeIn K (.ref fScriptError) = some (.type "function"))
    (gaScriptError : PySem.W.findIn K (.ref cScriptError) "__getattribute__" = some (some (.builtin "BaseException.__getattribute__")))
    (ggScriptError : PySem.W.findIn K (.ref cScriptError) "__getattr__" = some none)
    (hdScriptError : PySem.W.hasDictIn K cScriptError = true)
    (ssScriptError : PySem.W.subIn K (.ref cScriptError) (.ref cScriptError) = some true)
    (liScriptError : K.lookup fScriptError = some ⟨ocScriptError, odScriptError, .func (PySem.W.ksFn "__init__" "ScriptError.__init__" (defArgs sx_ScriptError) (defBody sx_ScriptError) (defScope sx_ScriptError) .none kVScriptError dcScriptError pmScriptError anScriptError (.ref cdaScriptError) ctScriptError ccScriptError), slScriptError⟩)
    (ciScriptError : PySem.W.codeIn K (.ref cdaScriptError) "ScriptError.__init__" = true)
    (coScriptError : K.lookup cdaScriptError = some ⟨cclScriptError, cddScriptError, .fields cvsScriptError, ccsScriptError⟩)
    (cvScriptError : cvsScriptError[2]? = some (.str flScriptError tfScriptError))
    (fiScriptError : ((l.prog.main.file : Str) == flScriptError) = true)
    (ceScriptError : K.lookup ccScriptError = some ⟨cl_ScriptError, cldScriptError, .cell (some (.ref cScriptError)), cslScriptError⟩)
    (toSup : (l.prog.main.scope.names.lookup ("super" : Str)).isSome = false)
    (suSup : PySem.W.nsIn K mainGlobals "super" = some none)
    (opSup : PySem.W.nsIn K PySem.cStatics "thirdparty.any" = some none)
    (mrScriptError : PySem.W.mroIn K cScriptError (.ref cScriptError) = some true)
    (ksScriptError : PySem.W.ks_superIn K cScriptError cScriptError "__init__" = some (some (.builtin "ValueError.__init__")))
    (vaScriptError : PySem.W.subIn K (.ref cScriptError) (.type "ValueError") = some true)
    (haScriptError : PySem.W.findIn K (.ref cScriptError) "__class__" = some (some (.builtin "object.__class__")))
    (hmScriptError : PySem.W.mroIn K cScriptError (.type "object") = some true)
    (klScriptErrorLivequillError : PySem.W.kitOne K (.ref cScriptError) (.ref cLivequillError) = some true)
    (klScriptErrorWaiting : PySem.W.kitOne K (.ref cScriptError) (.ref cWaiting) = some false)
    (af_tagged : PySem.W.nsIn K mainGlobals "tagged" = some (some (.ref a_tagged)))
    (lf_tagged : K.lookup a_tagged = some ⟨ocf_tagged, odf_tagged, .func (PySem.W.fnOf "tagged" "tagged" (defArgs s_tagged) (defBody s_tagged) (defScope s_tagged) .none kVf_tagged dcf_tagged pmf_tagged anf_tagged cdf_tagged ctf_tagged), slf_tagged⟩)
    (cf_tagged : PySem.W.codeIn K cdf_tagged "tagged" = true)
    (kf_tagged : PySem.W.keepIn K (.ref a_tagged) = true)
    (af_kind_of : PySem.W.nsIn K mainGlobals "kind_of" = some (some (.ref a_kind_of)))
    (lf_kind_of : K.lookup a_kind_of = some ⟨ocf_kind_of, odf_kind_of, .func (PySem.W.fnOf "kind_of" "kind_of" (defArgs s_kind_of) (defBody s_kind_of) (defScope s_kind_of) .none kVf_kind_of dcf_kind_of pmf_kind_of anf_kind_of cdf_kind_of ctf_kind_of), slf_kind_of⟩)
    (cf_kind_of : PySem.W.codeIn K cdf_kind_of "kind_of" = true)
    (kf_kind_of : PySem.W.keepIn K (.ref a_kind_of) = true)
    (af_kind_of_thing : PySem.W.nsIn K mainGlobals "kind_of_thing" = some (some (.ref a_kind_of_thing)))
    (lf_kind_of_thing : K.lookup a_kind_of_thing = some ⟨ocf_kind_of_thing, odf_kind_of_thing, .func (PySem.W.fnOf "kind_of_thing" "kind_of_thing" (defArgs s_kind_of_thing) (defBody s_kind_of_thing) (defScope s_kind_of_thing) .none kVf_kind_of_thing dcf_kind_of_thing pmf_kind_of_thing anf_kind_of_thing cdf_kind_of_thing ctf_kind_of_thing), slf_kind_of_thing⟩)
    (cf_kind_of_thing : PySem.W.codeIn K cdf_kind_of_thing "kind_of_thing" = true)
    (kf_kind_of_thing : PySem.W.keepIn K (.ref a_kind_of_thing) = true)
    (af_is_true : PySem.W.nsIn K mainGlobals "is_true" = some (some (.ref a_is_true)))
    (lf_is_true : K.lookup a_is_true = some ⟨ocf_is_true, odf_is_true, .func (PySem.W.fnOf "is_true" "is_true" (defArgs s_is_true) (defBody s_is_true) (defScope s_is_true) .none kVf_is_true dcf_is_true pmf_is_true anf_is_true cdf_is_true ctf_is_true), slf_is_true⟩)
    (cf_is_true : PySem.W.codeIn K cdf_is_true "is_true" = true)
    (kf_is_true : PySem.W.keepIn K (.ref a_is_true) = true)
    (af_equal : PySem.W.nsIn K mainGlobals "equal" = some (some (.ref a_equal)))
    (lf_equal : K.lookup a_equal = some ⟨ocf_equal, odf_equal, .func (PySem.W.fnOf "equal" "equal" (defArgs s_equal) (defBody s_equal) (defScope s_equal) .none kVf_equal dcf_equal pmf_equal anf_equal cdf_equal ctf_equal), slf_equal⟩)
    (cf_equal : PySem.W.codeIn K cdf_equal "equal" = true)
    (kf_equal : PySem.W.keepIn K (.ref a_equal) = true)
    (af_is_key : PySem.W.nsIn K mainGlobals "is_key" = some (some (.ref a_is_key)))
    (lf_is_key : K.lookup a_is_key = some ⟨ocf_is_key, odf_is_key, .func (PySem.W.fnOf "is_key" "is_key" (defArgs s_is_key) (defBody s_is_key) (defScope s_is_key) .none kVf_is_key dcf_is_key pmf_is_key anf_is_key cdf_is_key ctf_is_key), slf_is_key⟩)
    (cf_is_key : PySem.W.codeIn K cdf_is_key "is_key" = true)
    (kf_is_key : PySem.W.keepIn K (.ref a_is_key) = true)
    (af_check_size : PySem.W.nsIn K mainGlobals "check_size" = some (some (.ref a_check_size)))
    (lf_check_size : K.lookup a_check_size = some ⟨ocf_check_size, odf_check_size, .func (PySem.W.fnOf "check_size" "check_size" (defArgs s_check_size) (defBody s_check_size) (defScope s_check_size) .none kVf_check_size dcf_check_size pmf_check_size anf_check_size cdf_check_size ctf_check_size), slf_check_size⟩)
    (cf_check_size : PySem.W.codeIn K cdf_check_size "check_size" = true)
    (kf_check_size : PySem.W.keepIn K (.ref a_check_size) = true)
    (af_is_bounded : PySem.W.nsIn K mainGlobals "is_bounded" = some (some (.ref a_is_bounded)))
    (lf_is_bounded : K.lookup a_is_bounded = some ⟨ocf_is_bounded, odf_is_bounded, .func (PySem.W.fnOf "is_bounded" "is_bounded" (defArgs s_is_bounded) (defBody s_is_bounded) (defScope s_is_bounded) .none kVf_is_bounded dcf_is_bounded pmf_is_bounded anf_is_bounded cdf_is_bounded ctf_is_bounded), slf_is_bounded⟩)
    (cf_is_bounded : PySem.W.codeIn K cdf_is_bounded "is_bounded" = true)
    (kf_is_bounded : PySem.W.keepIn K (.ref a_is_bounded) = true)
    (af_checked_integer : PySem.W.nsIn K mainGlobals "checked_integer" = some (some (.ref a_checked_integer)))
    (lf_checked_integer : K.lookup a_checked_integer = some ⟨ocf_checked_integer, odf_checked_integer, .func (PySem.W.fnOf "checked_integer" "checked_integer" (defArgs s_checked_integer) (defBody s_checked_integer) (defScope s_checked_integer) .none kVf_checked_integer dcf_checked_integer pmf_checked_integer anf_checked_integer cdf_checked_integer ctf_checked_integer), slf_checked_integer⟩)
    (cf_checked_integer : PySem.W.codeIn K cdf_checked_integer "checked_integer" = true)
    (kf_checked_integer : PySem.W.keepIn K (.ref a_checked_integer) = true)
    (af_check_count : PySem.W.nsIn K mainGlobals "check_count" = some (some (.ref a_check_count)))
    (lf_check_count : K.lookup a_check_count = some ⟨ocf_check_count, odf_check_count, .func (PySem.W.fnOf "check_count" "check_count" (defArgs s_check_count) (defBody s_check_count) (defScope s_check_count) .none kVf_check_count dcf_check_count pmf_check_count anf_check_count cdf_check_count ctf_check_count), slf_check_count⟩)
    (cf_check_count : PySem.W.codeIn K cdf_check_count "check_count" = true)
    (kf_check_count : PySem.W.keepIn K (.ref a_check_count) = true)
    (af_check_arguments : PySem.W.nsIn K mainGlobals "check_arguments" = some (some (.ref a_check_arguments)))
    (lf_check_arguments : K.lookup a_check_arguments = some ⟨ocf_check_arguments, odf_check_arguments, .func (PySem.W.fnOf "check_arguments" "check_arguments" (defArgs s_check_arguments) (defBody s_check_arguments) (defScope s_check_arguments) .none kVf_check_arguments dcf_check_arguments pmf_check_arguments anf_check_arguments cdf_check_arguments ctf_check_arguments), slf_check_arguments⟩)
    (cf_check_arguments : PySem.W.codeIn K cdf_check_arguments "check_arguments" = true)
    (kf_check_arguments : PySem.W.keepIn K (.ref a_check_arguments) = true)
    (af_check_kind : PySem.W.nsIn K mainGlobals "check_kind" = some (some (.ref a_check_kind)))
    (lf_check_kind : K.lookup a_check_kind = some ⟨ocf_check_kind, odf_check_kind, .func (PySem.W.fnOf "check_kind" "check_kind" (defArgs s_check_kind) (defBody s_check_kind) (defScope s_check_kind) .none kVf_check_kind dcf_check_kind pmf_check_kind anf_check_kind cdf_check_kind ctf_check_kind), slf_check_kind⟩)
    (cf_check_kind : PySem.W.codeIn K cdf_check_kind "check_kind" = true)
    (kf_check_kind : PySem.W.keepIn K (.ref a_check_kind) = true)
    (af_check_alike : PySem.W.nsIn K mainGlobals "check_alike" = some (some (.ref a_check_alike)))
    (lf_check_alike : K.lookup a_check_alike = some ⟨ocf_check_alike, odf_check_alike, .func (PySem.W.fnOf "check_alike" "check_alike" (defArgs s_check_alike) (defBody s_check_alike) (defScope s_check_alike) .none kVf_check_alike dcf_check_alike pmf_check_alike anf_check_alike cdf_check_alike ctf_check_alike), slf_check_alike⟩)
    (cf_check_alike : PySem.W.codeIn K cdf_check_alike "check_alike" = true)
    (kf_check_alike : PySem.W.keepIn K (.ref a_check_alike) = true)
    (af_copy_of : PySem.W.nsIn K mainGlobals "copy_of" = some (some (.ref a_copy_of)))
    (lf_copy_of : K.lookup a_copy_of = some ⟨ocf_copy_of, odf_copy_of, .func (PySem.W.fnOf "copy_of" "copy_of" (defArgs s_copy_of) (defBody s_copy_of) (defScope s_copy_of) .none kVf_copy_of dcf_copy_of pmf_copy_of anf_copy_of cdf_copy_of ctf_copy_of), slf_copy_of⟩)
    (cf_copy_of : PySem.W.codeIn K cdf_copy_of "copy_of" = true)
    (kf_copy_of : PySem.W.keepIn K (.ref a_copy_of) = true)
    (af_is_holder : PySem.W.nsIn K mainGlobals "is_holder" = some (some (.ref a_is_holder)))
    (lf_is_holder : K.lookup a_is_holder = some ⟨ocf_is_holder, odf_is_holder, .func (PySem.W.fnOf "is_holder" "is_holder" (defArgs s_is_holder) (defBody s_is_holder) (defScope s_is_holder) .none kVf_is_holder dcf_is_holder pmf_is_holder anf_is_holder cdf_is_holder ctf_is_holder), slf_is_holder⟩)
    (cf_is_holder : PySem.W.codeIn K cdf_is_holder "is_holder" = true)
    (kf_is_holder : PySem.W.keepIn K (.ref a_is_holder) = true)
    (af_fill : PySem.W.nsIn K mainGlobals "fill" = some (some (.ref a_fill)))
    (lf_fill : K.lookup a_fill = some ⟨ocf_fill, odf_fill, .func (PySem.W.fnOf "fill" "fill" (defArgs s_fill) (defBody s_fill) (defScope s_fill) .none kVf_fill dcf_fill pmf_fill anf_fill cdf_fill ctf_fill), slf_fill⟩)
    (cf_fill : PySem.W.codeIn K cdf_fill "fill" = true)
    (kf_fill : PySem.W.keepIn K (.ref a_fill) = true)
    (af_same : PySem.W.nsIn K mainGlobals "same" = some (some (.ref a_same)))
    (lf_same : K.lookup a_same = some ⟨ocf_same, odf_same, .func (PySem.W.fnOf "same" "same" (defArgs s_same) (defBody s_same) (defScope s_same) .none kVf_same dcf_same pmf_same anf_same cdf_same ctf_same), slf_same⟩)
    (cf_same : PySem.W.codeIn K cdf_same "same" = true)
    (kf_same : PySem.W.keepIn K (.ref a_same) = true)
    (af_pairs_within : PySem.W.nsIn K mainGlobals "pairs_within" = some (some (.ref a_pairs_within)))
    (lf_pairs_within : K.lookup a_pairs_within = some ⟨ocf_pairs_within, odf_pairs_within, .func (PySem.W.fnOf "pairs_within" "pairs_within" (defArgs s_pairs_within) (defBody s_pairs_within) (defScope s_pairs_within) .none kVf_pairs_within dcf_pairs_within pmf_pairs_within anf_pairs_within cdf_pairs_within ctf_pairs_within), slf_pairs_within⟩)
    (cf_pairs_within : PySem.W.codeIn K cdf_pairs_within "pairs_within" = true)
    (kf_pairs_within : PySem.W.keepIn K (.ref a_pairs_within) = true)
    (af_raised : PySem.W.nsIn K mainGlobals "raised" = some (some (.ref a_raised)))
    (lf_raised : K.lookup a_raised = some ⟨ocf_raised, odf_raised, .func (PySem.W.fnOf "raised" "raised" (defArgs s_raised) (defBody s_raised) (defScope s_raised) .none kVf_raised dcf_raised pmf_raised anf_raised cdf_raised ctf_raised), slf_raised⟩)
    (cf_raised : PySem.W.codeIn K cdf_raised "raised" = true)
    (kf_raised : PySem.W.keepIn K (.ref a_raised) = true)
    (af_small_power : PySem.W.nsIn K mainGlobals "small_power" = some (some (.ref a_small_power)))
    (lf_small_power : K.lookup a_small_power = some ⟨ocf_small_power, odf_small_power, .func (PySem.W.fnOf "small_power" "small_power" (defArgs s_small_power) (defBody s_small_power) (defScope s_small_power) .none kVf_small_power dcf_small_power pmf_small_power anf_small_power cdf_small_power ctf_small_power), slf_small_power⟩)
    (cf_small_power : PySem.W.codeIn K cdf_small_power "small_power" = true)
    (kf_small_power : PySem.W.keepIn K (.ref a_small_power) = true)
    (af_root_of : PySem.W.nsIn K mainGlobals "root_of" = some (some (.ref a_root_of)))
    (lf_root_of : K.lookup a_root_of = some ⟨ocf_root_of, odf_root_of, .func (PySem.W.fnOf "root_of" "root_of" (defArgs s_root_of) (defBody s_root_of) (defScope s_root_of) .none kVf_root_of dcf_root_of pmf_root_of anf_root_of cdf_root_of ctf_root_of), slf_root_of⟩)
    (cf_root_of : PySem.W.codeIn K cdf_root_of "root_of" = true)
    (kf_root_of : PySem.W.keepIn K (.ref a_root_of) = true)
    (af_check_base : PySem.W.nsIn K mainGlobals "check_base" = some (some (.ref a_check_base)))
    (lf_check_base : K.lookup a_check_base = some ⟨ocf_check_base, odf_check_base, .func (PySem.W.fnOf "check_base" "check_base" (defArgs s_check_base) (defBody s_check_base) (defScope s_check_base) .none kVf_check_base dcf_check_base pmf_check_base anf_check_base cdf_check_base ctf_check_base), slf_check_base⟩)
    (cf_check_base : PySem.W.codeIn K cdf_check_base "check_base" = true)
    (kf_check_base : PySem.W.keepIn K (.ref a_check_base) = true)
    (af_written_in : PySem.W.nsIn K mainGlobals "written_in" = some (some (.ref a_written_in)))
    (lf_written_in : K.lookup a_written_in = some ⟨ocf_written_in, odf_written_in, .func (PySem.W.fnOf "written_in" "written_in" (defArgs s_written_in) (defBody s_written_in) (defScope s_written_in) .none kVf_written_in dcf_written_in pmf_written_in anf_written_in cdf_written_in ctf_written_in), slf_written_in⟩)
    (cf_written_in : PySem.W.codeIn K cdf_written_in "written_in" = true)
    (kf_written_in : PySem.W.keepIn K (.ref a_written_in) = true)
    (af_read_in : PySem.W.nsIn K mainGlobals "read_in" = some (some (.ref a_read_in)))
    (lf_read_in : K.lookup a_read_in = some ⟨ocf_read_in, odf_read_in, .func (PySem.W.fnOf "read_in" "read_in" (defArgs s_read_in) (defBody s_read_in) (defScope s_read_in) .none kVf_read_in dcf_read_in pmf_read_in anf_read_in cdf_read_in ctf_read_in), slf_read_in⟩)
    (cf_read_in : PySem.W.codeIn K cdf_read_in "read_in" = true)
    (kf_read_in : PySem.W.keepIn K (.ref a_read_in) = true)
    (af_place_of_digit : PySem.W.nsIn K mainGlobals "place_of_digit" = some (some (.ref a_place_of_digit)))
    (lf_place_of_digit : K.lookup a_place_of_digit = some ⟨ocf_place_of_digit, odf_place_of_digit, .func (PySem.W.fnOf "place_of_digit" "place_of_digit" (defArgs s_place_of_digit) (defBody s_place_of_digit) (defScope s_place_of_digit) .none kVf_place_of_digit dcf_place_of_digit pmf_place_of_digit anf_place_of_digit cdf_place_of_digit ctf_place_of_digit), slf_place_of_digit⟩)
    (cf_place_of_digit : PySem.W.codeIn K cdf_place_of_digit "place_of_digit" = true)
    (kf_place_of_digit : PySem.W.keepIn K (.ref a_place_of_digit) = true)
    (af_make_list : PySem.W.nsIn K mainGlobals "make_list" = some (some (.ref a_make_list)))
    (lf_make_list : K.lookup a_make_list = some ⟨ocf_make_list, odf_make_list, .func (PySem.W.fnOf "make_list" "make_list" (defArgs s_make_list) (defBody s_make_list) (defScope s_make_list) .none kVf_make_list dcf_make_list pmf_make_list anf_make_list cdf_make_list ctf_make_list), slf_make_list⟩)
    (cf_make_list : PySem.W.codeIn K cdf_make_list "make_list" = true)
    (kf_make_list : PySem.W.keepIn K (.ref a_make_list) = true)
    (af_quoted : PySem.W.nsIn K mainGlobals "quoted" = some (some (.ref a_quoted)))
    (lf_quoted : K.lookup a_quoted = some ⟨ocf_quoted, odf_quoted, .func (PySem.W.fnOf "quoted" "quoted" (defArgs s_quoted) (defBody s_quoted) (defScope s_quoted) .none kVf_quoted dcf_quoted pmf_quoted anf_quoted cdf_quoted ctf_quoted), slf_quoted⟩)
    (cf_quoted : PySem.W.codeIn K cdf_quoted "quoted" = true)
    (kf_quoted : PySem.W.keepIn K (.ref a_quoted) = true)
    (af_write_value : PySem.W.nsIn K mainGlobals "write_value" = some (some (.ref a_write_value)))
    (lf_write_value : K.lookup a_write_value = some ⟨ocf_write_value, odf_write_value, .func (PySem.W.fnOf "write_value" "write_value" (defArgs s_write_value) (defBody s_write_value) (defScope s_write_value) .none kVf_write_value dcf_write_value pmf_write_value anf_write_value cdf_write_value ctf_write_value), slf_write_value⟩)
    (cf_write_value : PySem.W.codeIn K cdf_write_value "write_value" = true)
    (kf_write_value : PySem.W.keepIn K (.ref a_write_value) = true)
    (af_text_of : PySem.W.nsIn K mainGlobals "text_of" = some (some (.ref a_text_of)))
    (lf_text_of : K.lookup a_text_of = some ⟨ocf_text_of, odf_text_of, .func (PySem.W.fnOf "text_of" "text_of" (defArgs s_text_of) (defBody s_text_of) (defScope s_text_of) .none kVf_text_of dcf_text_of pmf_text_of anf_text_of cdf_text_of ctf_text_of), slf_text_of⟩)
    (cf_text_of : PySem.W.codeIn K cdf_text_of "text_of" = true)
    (kf_text_of : PySem.W.keepIn K (.ref a_text_of) = true)
    (af_write : PySem.W.nsIn K mainGlobals "write" = some (some (.ref a_write)))
    (lf_write : K.lookup a_write = some ⟨ocf_write, odf_write, .func (PySem.W.fnOf "write" "write" (defArgs s_write) (defBody s_write) (defScope s_write) .none kVf_write dcf_write pmf_write anf_write cdf_write ctf_write), slf_write⟩)
    (cf_write : PySem.W.codeIn K cdf_write "write" = true)
    (kf_write : PySem.W.keepIn K (.ref a_write) = true)
    (af_write_around : PySem.W.nsIn K mainGlobals "write_around" = some (some (.ref a_write_around)))
    (lf_write_around : K.lookup a_write_around = some ⟨ocf_write_around, odf_write_around, .func (PySem.W.fnOf "write_around" "write_around" (defArgs s_write_around) (defBody s_write_around) (defScope s_write_around) .none kVf_write_around dcf_write_around pmf_write_around anf_write_around cdf_write_around ctf_write_around), slf_write_around⟩)
    (cf_write_around : PySem.W.codeIn K cdf_write_around "write_around" = true)
    (kf_write_around : PySem.W.keepIn K (.ref a_write_around) = true)
    (af_write_held : PySem.W.nsIn K mainGlobals "write_held" = some (some (.ref a_write_held)))
    (lf_write_held : K.lookup a_write_held = some ⟨ocf_write_held, odf_write_held, .func (PySem.W.fnOf "write_held" "write_held" (defArgs s_write_held) (defBody s_write_held) (defScope s_write_held) .none kVf_write_held dcf_write_held pmf_write_held anf_write_held cdf_write_held ctf_write_held), slf_write_held⟩)
    (cf_write_held : PySem.W.codeIn K cdf_write_held "write_held" = true)
    (kf_write_held : PySem.W.keepIn K (.ref a_write_held) = true)
    (af_held_by : PySem.W.nsIn K mainGlobals "held_by" = some (some (.ref a_held_by)))
    (lf_held_by : K.lookup a_held_by = some ⟨ocf_held_by, odf_held_by, .func (PySem.W.fnOf "held_by" "held_by" (defArgs s_held_by) (defBody s_held_by) (defScope s_held_by) .none kVf_held_by dcf_held_by pmf_held_by anf_held_by cdf_held_by ctf_held_by), slf_held_by⟩)
    (cf_held_by : PySem.W.codeIn K cdf_held_by "held_by" = true)
    (kf_held_by : PySem.W.keepIn K (.ref a_held_by) = true)
    (af_plain_form : PySem.W.nsIn K mainGlobals "plain_form" = some (some (.ref a_plain_form)))
    (lf_plain_form : K.lookup a_plain_form = some ⟨ocf_plain_form, odf_plain_form, .func (PySem.W.fnOf "plain_form" "plain_form" (defArgs s_plain_form) (defBody s_plain_form) (defScope s_plain_form) .none kVf_plain_form dcf_plain_form pmf_plain_form anf_plain_form cdf_plain_form ctf_plain_form), slf_plain_form⟩)
    (cf_plain_form : PySem.W.codeIn K cdf_plain_form "plain_form" = true)
    (kf_plain_form : PySem.W.keepIn K (.ref a_plain_form) = true)
    (af_joined : PySem.W.nsIn K mainGlobals "joined" = some (some (.ref a_joined)))
    (lf_joined : K.lookup a_joined = some ⟨ocf_joined, odf_joined, .func (PySem.W.fnOf "joined" "joined" (defArgs s_joined) (defBody s_joined) (defScope s_joined) .none kVf_joined dcf_joined pmf_joined anf_joined cdf_joined ctf_joined), slf_joined⟩)
    (cf_joined : PySem.W.codeIn K cdf_joined "joined" = true)
    (kf_joined : PySem.W.keepIn K (.ref a_joined) = true)
    (af_call_builtin : PySem.W.nsIn K mainGlobals "call_builtin" = some (some (.ref a_call_builtin)))
    (lf_call_builtin : K.lookup a_call_builtin = some ⟨ocf_call_builtin, odf_call_builtin, .func (PySem.W.fnOf "call_builtin" "call_builtin" (defArgs s_call_builtin) (defBody s_call_builtin) (defScope s_call_builtin) .none kVf_call_builtin dcf_call_builtin pmf_call_builtin anf_call_builtin cdf_call_builtin ctf_call_builtin), slf_call_builtin⟩)
    (cf_call_builtin : PySem.W.codeIn K cdf_call_builtin "call_builtin" = true)
    (kf_call_builtin : PySem.W.keepIn K (.ref a_call_builtin) = true)
    (af_print_line : PySem.W.nsIn K mainGlobals "print_line" = some (some (.ref a_print_line)))
    (lf_print_line : K.lookup a_print_line = some ⟨ocf_print_line, odf_print_line, .func (PySem.W.fnOf "print_line" "print_line" (defArgs s_print_line) (defBody s_print_line) (defScope s_print_line) .none kVf_print_line dcf_print_line pmf_print_line anf_print_line cdf_print_line ctf_print_line), slf_print_line⟩)
    (cf_print_line : PySem.W.codeIn K cdf_print_line "print_line" = true)
    (kf_print_line : PySem.W.keepIn K (.ref a_print_line) = true)
    (af_integers_between : PySem.W.nsIn K mainGlobals "integers_between" = some (some (.ref a_integers_between)))
    (lf_integers_between : K.lookup a_integers_between = some ⟨ocf_integers_between, odf_integers_between, .func (PySem.W.fnOf "integers_between" "integers_between" (defArgs s_integers_between) (defBody s_integers_between) (defScope s_integers_between) .none kVf_integers_between dcf_integers_between pmf_integers_between anf_integers_between cdf_integers_between ctf_integers_between), slf_integers_between⟩)
    (cf_integers_between : PySem.W.codeIn K cdf_integers_between "integers_between" = true)
    (kf_integers_between : PySem.W.keepIn K (.ref a_integers_between) = true)
    (af_least : PySem.W.nsIn K mainGlobals "least" = some (some (.ref a_least)))
    (lf_least : K.lookup a_least = some ⟨ocf_least, odf_least, .func (PySem.W.fnOf "least" "least" (defArgs s_least) (defBody s_least) (defScope s_least) .none kVf_least dcf_least pmf_least anf_least cdf_least ctf_least), slf_least⟩)
    (cf_least : PySem.W.codeIn K cdf_least "least" = true)
    (kf_least : PySem.W.keepIn K (.ref a_least) = true)
    (af_greatest : PySem.W.nsIn K mainGlobals "greatest" = some (some (.ref a_greatest)))
    (lf_greatest : K.lookup a_greatest = some ⟨ocf_greatest, odf_greatest, .func (PySem.W.fnOf "greatest" "greatest" (defArgs s_greatest) (defBody s_greatest) (defScope s_greatest) .none kVf_greatest dcf_greatest pmf_greatest anf_greatest cdf_greatest ctf_greatest), slf_greatest⟩)
    (cf_greatest : PySem.W.codeIn K cdf_greatest "greatest" = true)
    (kf_greatest : PySem.W.keepIn K (.ref a_greatest) = true)
    (af_choices : PySem.W.nsIn K mainGlobals "choices" = some (some (.ref a_choices)))
    (lf_choices : K.lookup a_choices = some ⟨ocf_choices, odf_choices, .func (PySem.W.fnOf "choices" "choices" (defArgs s_choices) (defBody s_choices) (defScope s_choices) .none kVf_choices dcf_choices pmf_choices anf_choices cdf_choices ctf_choices), slf_choices⟩)
    (cf_choices : PySem.W.codeIn K cdf_choices "choices" = true)
    (kf_choices : PySem.W.keepIn K (.ref a_choices) = true)
    (af_read_line : PySem.W.nsIn K mainGlobals "read_line" = some (some (.ref a_read_line)))
    (lf_read_line : K.lookup a_read_line = some ⟨ocf_read_line, odf_read_line, .func (PySem.W.fnOf "read_line" "read_line" (defArgs s_read_line) (defBody s_read_line) (defScope s_read_line) .none kVf_read_line dcf_read_line pmf_read_line anf_read_line cdf_read_line ctf_read_line), slf_read_line⟩)
    (cf_read_line : PySem.W.codeIn K cdf_read_line "read_line" = true)
    (kf_read_line : PySem.W.keepIn K (.ref a_read_line) = true)
    (af_as_text : PySem.W.nsIn K mainGlobals "as_text" = some (some (.ref a_as_text)))
    (lf_as_text : K.lookup a_as_text = some ⟨ocf_as_text, odf_as_text, .func (PySem.W.fnOf "as_text" "as_text" (defArgs s_as_text) (defBody s_as_text) (defScope s_as_text) .none kVf_as_text dcf_as_text pmf_as_text anf_as_text cdf_as_text ctf_as_text), slf_as_text⟩)
    (cf_as_text : PySem.W.codeIn K cdf_as_text "as_text" = true)
    (kf_as_text : PySem.W.keepIn K (.ref a_as_text) = true)
    (af_as_integer : PySem.W.nsIn K mainGlobals "as_integer" = some (some (.ref a_as_integer)))
    (lf_as_integer : K.lookup a_as_integer = some ⟨ocf_as_integer, odf_as_integer, .func (PySem.W.fnOf "as_integer" "as_integer" (defArgs s_as_integer) (defBody s_as_integer) (defScope s_as_integer) .none kVf_as_integer dcf_as_integer pmf_as_integer anf_as_integer cdf_as_integer ctf_as_integer), slf_as_integer⟩)
    (cf_as_integer : PySem.W.codeIn K cdf_as_integer "as_integer" = true)
    (kf_as_integer : PySem.W.keepIn K (.ref a_as_integer) = true)
    (af_length : PySem.W.nsIn K mainGlobals "length" = some (some (.ref a_length)))
    (lf_length : K.lookup a_length = some ⟨ocf_length, odf_length, .func (PySem.W.fnOf "length" "length" (defArgs s_length) (defBody s_length) (defScope s_length) .none kVf_length dcf_length pmf_length anf_length cdf_length ctf_length), slf_length⟩)
    (cf_length : PySem.W.codeIn K cdf_length "length" = true)
    (kf_length : PySem.W.keepIn K (.ref a_length) = true)
    (af_kind : PySem.W.nsIn K mainGlobals "kind" = some (some (.ref a_kind)))
    (lf_kind : K.lookup a_kind = some ⟨ocf_kind, odf_kind, .func (PySem.W.fnOf "kind" "kind" (defArgs s_kind) (defBody s_kind) (defScope s_kind) .none kVf_kind dcf_kind pmf_kind anf_kind cdf_kind ctf_kind), slf_kind⟩)
    (cf_kind : PySem.W.codeIn K cdf_kind "kind" = true)
    (kf_kind : PySem.W.keepIn K (.ref a_kind) = true)
    (af_without_sign : PySem.W.nsIn K mainGlobals "without_sign" = some (some (.ref a_without_sign)))
    (lf_without_sign : K.lookup a_without_sign = some ⟨ocf_without_sign, odf_without_sign, .func (PySem.W.fnOf "without_sign" "without_sign" (defArgs s_without_sign) (defBody s_without_sign) (defScope s_without_sign) .none kVf_without_sign dcf_without_sign pmf_without_sign anf_without_sign cdf_without_sign ctf_without_sign), slf_without_sign⟩)
    (cf_without_sign : PySem.W.codeIn K cdf_without_sign "without_sign" = true)
    (kf_without_sign : PySem.W.keepIn K (.ref a_without_sign) = true)
    (af_power : PySem.W.nsIn K mainGlobals "power" = some (some (.ref a_power)))
    (lf_power : K.lookup a_power = some ⟨ocf_power, odf_power, .func (PySem.W.fnOf "power" "power" (defArgs s_power) (defBody s_power) (defScope s_power) .none kVf_power dcf_power pmf_power anf_power cdf_power ctf_power), slf_power⟩)
    (cf_power : PySem.W.codeIn K cdf_power "power" = true)
    (kf_power : PySem.W.keepIn K (.ref a_power) = true)
    (af_divisor : PySem.W.nsIn K mainGlobals "divisor" = some (some (.ref a_divisor)))
    (lf_divisor : K.lookup a_divisor = some ⟨ocf_divisor, odf_divisor, .func (PySem.W.fnOf "divisor" "divisor" (defArgs s_divisor) (defBody s_divisor) (defScope s_divisor) .none kVf_divisor dcf_divisor pmf_divisor anf_divisor cdf_divisor ctf_divisor), slf_divisor⟩)
    (cf_divisor : PySem.W.codeIn K cdf_divisor "divisor" = true)
    (kf_divisor : PySem.W.keepIn K (.ref a_divisor) = true)
    (af_root : PySem.W.nsIn K mainGlobals "root" = some (some (.ref a_root)))
    (lf_root : K.lookup a_root = some ⟨ocf_root, odf_root, .func (PySem.W.fnOf "root" "root" (defArgs s_root) (defBody s_root) (defScope s_root) .none kVf_root dcf_root pmf_root anf_root cdf_root ctf_root), slf_root⟩)
    (cf_root : PySem.W.codeIn K cdf_root "root" = true)
    (kf_root : PySem.W.keepIn K (.ref a_root) = true)
    (af_in_base : PySem.W.nsIn K mainGlobals "in_base" = some (some (.ref a_in_base)))
    (lf_in_base : K.lookup a_in_base = some ⟨ocf_in_base, odf_in_base, .func (PySem.W.fnOf "in_base" "in_base" (defArgs s_in_base) (defBody s_in_base) (defScope s_in_base) .none kVf_in_base dcf_in_base pmf_in_base anf_in_base cdf_in_base ctf_in_base), slf_in_base⟩)
    (cf_in_base : PySem.W.codeIn K cdf_in_base "in_base" = true)
    (kf_in_base : PySem.W.keepIn K (.ref a_in_base) = true)
    (af_from_base : PySem.W.nsIn K mainGlobals "from_base" = some (some (.ref a_from_base)))
    (lf_from_base : K.lookup a_from_base = some ⟨ocf_from_base, odf_from_base, .func (PySem.W.fnOf "from_base" "from_base" (defArgs s_from_base) (defBody s_from_base) (defScope s_from_base) .none kVf_from_base dcf_from_base pmf_from_base anf_from_base cdf_from_base ctf_from_base), slf_from_base⟩)
    (cf_from_base : PySem.W.codeIn K cdf_from_base "from_base" = true)
    (kf_from_base : PySem.W.keepIn K (.ref a_from_base) = true)
    (af_character : PySem.W.nsIn K mainGlobals "character" = some (some (.ref a_character)))
    (lf_character : K.lookup a_character = some ⟨ocf_character, odf_character, .func (PySem.W.fnOf "character" "character" (defArgs s_character) (defBody s_character) (defScope s_character) .none kVf_character dcf_character pmf_character anf_character cdf_character ctf_character), slf_character⟩)
    (cf_character : PySem.W.codeIn K cdf_character "character" = true)
    (kf_character : PySem.W.keepIn K (.ref a_character) = true)
    (af_assert_true : PySem.W.nsIn K mainGlobals "assert_true" = some (some (.ref a_assert_true)))
    (lf_assert_true : K.lookup a_assert_true = some ⟨ocf_assert_true, odf_assert_true, .func (PySem.W.fnOf "assert_true" "assert_true" (defArgs s_assert_true) (defBody s_assert_true) (defScope s_assert_true) .none kVf_assert_true dcf_assert_true pmf_assert_true anf_assert_true cdf_assert_true ctf_assert_true), slf_assert_true⟩)
    (cf_assert_true : PySem.W.codeIn K cdf_assert_true "assert_true" = true)
    (kf_assert_true : PySem.W.keepIn K (.ref a_assert_true) = true)
    (af_copy : PySem.W.nsIn K mainGlobals "copy" = some (some (.ref a_copy)))
    (lf_copy : K.lookup a_copy = some ⟨ocf_copy, odf_copy, .func (PySem.W.fnOf "copy" "copy" (defArgs s_copy) (defBody s_copy) (defScope s_copy) .none kVf_copy dcf_copy pmf_copy anf_copy cdf_copy ctf_copy), slf_copy⟩)
    (cf_copy : PySem.W.codeIn K cdf_copy "copy" = true)
    (kf_copy : PySem.W.keepIn K (.ref a_copy) = true)
    (af_equals : PySem.W.nsIn K mainGlobals "equals" = some (some (.ref a_equals)))
    (lf_equals : K.lookup a_equals = some ⟨ocf_equals, odf_equals, .func (PySem.W.fnOf "equals" "equals" (defArgs s_equals) (defBody s_equals) (defScope s_equals) .none kVf_equals dcf_equals pmf_equals anf_equals cdf_equals ctf_equals), slf_equals⟩)
    (cf_equals : PySem.W.codeIn K cdf_equals "equals" = true)
    (kf_equals : PySem.W.keepIn K (.ref a_equals) = true)
    (af_law_cell : PySem.W.nsIn K mainGlobals "_law_cell" = some (some (.ref a_law_cell)))
    (lf_law_cell : K.lookup a_law_cell = some ⟨ocf_law_cell, odf_law_cell, .func (PySem.W.fnOf "_law_cell" "_law_cell" (defArgs s_law_cell) (defBody s_law_cell) (defScope s_law_cell) .none kVf_law_cell dcf_law_cell pmf_law_cell anf_law_cell cdf_law_cell ctf_law_cell), slf_law_cell⟩)
    (cf_law_cell : PySem.W.codeIn K cdf_law_cell "_law_cell" = true)
    (kf_law_cell : PySem.W.keepIn K (.ref a_law_cell) = true)
    (af_law_is_integer : PySem.W.nsIn K mainGlobals "_law_is_integer" = some (some (.ref a_law_is_integer)))
    (lf_law_is_integer : K.lookup a_law_is_integer = some ⟨ocf_law_is_integer, odf_law_is_integer, .func (PySem.W.fnOf "_law_is_integer" "_law_is_integer" (defArgs s_law_is_integer) (defBody s_law_is_integer) (defScope s_law_is_integer) .none kVf_law_is_integer dcf_law_is_integer pmf_law_is_integer anf_law_is_integer cdf_law_is_integer ctf_law_is_integer), slf_law_is_integer⟩)
    (cf_law_is_integer : PySem.W.codeIn K cdf_law_is_integer "_law_is_integer" = true)
    (kf_law_is_integer : PySem.W.keepIn K (.ref a_law_is_integer) = true)
    (af_law_begin : PySem.W.nsIn K mainGlobals "_law_begin" = some (some (.ref a_law_begin)))
    (lf_law_begin : K.lookup a_law_begin = some ⟨ocf_law_begin, odf_law_begin, .func (PySem.W.fnOf "_law_begin" "_law_begin" (defArgs s_law_begin) (defBody s_law_begin) (defScope s_law_begin) .none kVf_law_begin dcf_law_begin pmf_law_begin anf_law_begin cdf_law_begin ctf_law_begin), slf_law_begin⟩)
    (cf_law_begin : PySem.W.codeIn K cdf_law_begin "_law_begin" = true)
    (kf_law_begin : PySem.W.keepIn K (.ref a_law_begin) = true)
    (af_law_draw : PySem.W.nsIn K mainGlobals "_law_draw" = some (some (.ref a_law_draw)))
    (lf_law_draw : K.lookup a_law_draw = some ⟨ocf_law_draw, odf_law_draw, .func (PySem.W.fnOf "_law_draw" "_law_draw" (defArgs s_law_draw) (defBody s_law_draw) (defScope s_law_draw) .none kVf_law_draw dcf_law_draw pmf_law_draw anf_law_draw cdf_law_draw ctf_law_draw), slf_law_draw⟩)
    (cf_law_draw : PySem.W.codeIn K cdf_law_draw "_law_draw" = true)
    (kf_law_draw : PySem.W.keepIn K (.ref a_law_draw) = true)
    (af_law_pick : PySem.W.nsIn K mainGlobals "_law_pick" = some (some (.ref a_law_pick)))
    (lf_law_pick : K.lookup a_law_pick = some ⟨ocf_law_pick, odf_law_pick, .func (PySem.W.fnOf "_law_pick" "_law_pick" (defArgs s_law_pick) (defBody s_law_pick) (defScope s_law_pick) .none kVf_law_pick dcf_law_pick pmf_law_pick anf_law_pick cdf_law_pick ctf_law_pick), slf_law_pick⟩)
    (cf_law_pick : PySem.W.codeIn K cdf_law_pick "_law_pick" = true)
    (kf_law_pick : PySem.W.keepIn K (.ref a_law_pick) = true)
    (af_law_greatest : PySem.W.nsIn K mainGlobals "_law_greatest" = some (some (.ref a_law_greatest)))
    (lf_law_greatest : K.lookup a_law_greatest = some ⟨ocf_law_greatest, odf_law_greatest, .func (PySem.W.fnOf "_law_greatest" "_law_greatest" (defArgs s_law_greatest) (defBody s_law_greatest) (defScope s_law_greatest) .none kVf_law_greatest dcf_law_greatest pmf_law_greatest anf_law_greatest cdf_law_greatest ctf_law_greatest), slf_law_greatest⟩)
    (cf_law_greatest : PySem.W.codeIn K cdf_law_greatest "_law_greatest" = true)
    (kf_law_greatest : PySem.W.keepIn K (.ref a_law_greatest) = true)
    (af_law_number : PySem.W.nsIn K mainGlobals "_law_number" = some (some (.ref a_law_number)))
    (lf_law_number : K.lookup a_law_number = some ⟨ocf_law_number, odf_law_number, .func (PySem.W.fnOf "_law_number" "_law_number" (defArgs s_law_number) (defBody s_law_number) (defScope s_law_number) .none kVf_law_number dcf_law_number pmf_law_number anf_law_number cdf_law_number ctf_law_number), slf_law_number⟩)
    (cf_law_number : PySem.W.codeIn K cdf_law_number "_law_number" = true)
    (kf_law_number : PySem.W.keepIn K (.ref a_law_number) = true)
    (af_law_call : PySem.W.nsIn K mainGlobals "_law_call" = some (some (.ref a_law_call)))
    (lf_law_call : K.lookup a_law_call = some ⟨ocf_law_call, odf_law_call, .func (PySem.W.fnOf "_law_call" "_law_call" (defArgs s_law_call) (defBody s_law_call) (defScope s_law_call) .none kVf_law_call dcf_law_call pmf_law_call anf_law_call cdf_law_call ctf_law_call), slf_law_call⟩)
    (cf_law_call : PySem.W.codeIn K cdf_law_call "_law_call" = true)
    (kf_law_call : PySem.W.keepIn K (.ref a_law_call) = true)
    (af_law_root : PySem.W.nsIn K mainGlobals "_law_root" = some (some (.ref a_law_root)))
    (lf_law_root : K.lookup a_law_root = some ⟨ocf_law_root, odf_law_root, .func (PySem.W.fnOf "_law_root" "_law_root" (defArgs s_law_root) (defBody s_law_root) (defScope s_law_root) .none kVf_law_root dcf_law_root pmf_law_root anf_law_root cdf_law_root ctf_law_root), slf_law_root⟩)
    (cf_law_root : PySem.W.codeIn K cdf_law_root "_law_root" = true)
    (kf_law_root : PySem.W.keepIn K (.ref a_law_root) = true)
    (af_law_divisor : PySem.W.nsIn K mainGlobals "_law_divisor" = some (some (.ref a_law_divisor)))
    (lf_law_divisor : K.lookup a_law_divisor = some ⟨ocf_law_divisor, odf_law_divisor, .func (PySem.W.fnOf "_law_divisor" "_law_divisor" (defArgs s_law_divisor) (defBody s_law_divisor) (defScope s_law_divisor) .none kVf_law_divisor dcf_law_divisor pmf_law_divisor anf_law_divisor cdf_law_divisor ctf_law_divisor), slf_law_divisor⟩)
    (cf_law_divisor : PySem.W.codeIn K cdf_law_divisor "_law_divisor" = true)
    (kf_law_divisor : PySem.W.keepIn K (.ref a_law_divisor) = true)
    (af_law_power : PySem.W.nsIn K mainGlobals "_law_power" = some (some (.ref a_law_power)))
    (lf_law_power : K.lookup a_law_power = some ⟨ocf_law_power, odf_law_power, .func (PySem.W.fnOf "_law_power" "_law_power" (defArgs s_law_power) (defBody s_law_power) (defScope s_law_power) .none kVf_law_power dcf_law_power pmf_law_power anf_law_power cdf_law_power ctf_law_power), slf_law_power⟩)
    (cf_law_power : PySem.W.codeIn K cdf_law_power "_law_power" = true)
    (kf_law_power : PySem.W.keepIn K (.ref a_law_power) = true)
    (af_law_digits : PySem.W.nsIn K mainGlobals "_law_digits" = some (some (.ref a_law_digits)))
    (lf_law_digits : K.lookup a_law_digits = some ⟨ocf_law_digits, odf_law_digits, .func (PySem.W.fnOf "_law_digits" "_law_digits" (defArgs s_law_digits) (defBody s_law_digits) (defScope s_law_digits) .none kVf_law_digits dcf_law_digits pmf_law_digits anf_law_digits cdf_law_digits ctf_law_digits), slf_law_digits⟩)
    (cf_law_digits : PySem.W.codeIn K cdf_law_digits "_law_digits" = true)
    (kf_law_digits : PySem.W.keepIn K (.ref a_law_digits) = true)
    (af_law_base : PySem.W.nsIn K mainGlobals "_law_base" = some (some (.ref a_law_base)))
    (lf_law_base : K.lookup a_law_base = some ⟨ocf_law_base, odf_law_base, .func (PySem.W.fnOf "_law_base" "_law_base" (defArgs s_law_base) (defBody s_law_base) (defScope s_law_base) .none kVf_law_base dcf_law_base pmf_law_base anf_law_base cdf_law_base ctf_law_base), slf_law_base⟩)
    (cf_law_base : PySem.W.codeIn K cdf_law_base "_law_base" = true)
    (kf_law_base : PySem.W.keepIn K (.ref a_law_base) = true)
    (af_law_no_number : PySem.W.nsIn K mainGlobals "_law_no_number" = some (some (.ref a_law_no_number)))
    (lf_law_no_number : K.lookup a_law_no_number = some ⟨ocf_law_no_number, odf_law_no_number, .func (PySem.W.fnOf "_law_no_number" "_law_no_number" (defArgs s_law_no_number) (defBody s_law_no_number) (defScope s_law_no_number) .none kVf_law_no_number dcf_law_no_number pmf_law_no_number anf_law_no_number cdf_law_no_number ctf_law_no_number), slf_law_no_number⟩)
    (cf_law_no_number : PySem.W.codeIn K cdf_law_no_number "_law_no_number" = true)
    (kf_law_no_number : PySem.W.keepIn K (.ref a_law_no_number) = true)
    (alaw : PySem.W.nsIn K mainGlobals "law" = some (some (.ref a_law)))
    (llaw : K.lookup a_law = some ⟨oclaw, odlaw, .func (PySem.W.fnOf "law" "law" (defArgs s_law) (defBody s_law) (defScope s_law) .none kVlaw dclaw pmlaw anlaw cdlaw ctlaw), sllaw⟩)
    (claw : PySem.W.codeIn K cdlaw "law" = true)
    (klaw : PySem.W.keepIn K (.ref a_law) = true)
    (af_Ref_init : PySem.W.findIn K (.ref cRef) "__init__" = some (some (.ref a_Ref_init)))
    (if_Ref_init : PySem.W.isFn K (.ref a_Ref_init) = true)
    (lf_Ref_init : K.lookup a_Ref_init = some ⟨ocf_Ref_init, odf_Ref_init, .func (PySem.W.fnOf "__init__" "Ref.__init__" (defArgs s_Ref_init) (defBody s_Ref_init) (defScope s_Ref_init) .none kVf_Ref_init dcf_Ref_init pmf_Ref_init anf_Ref_init cdf_Ref_init ctf_Ref_init), slf_Ref_init⟩)
    (cf_Ref_init : PySem.W.codeIn K cdf_Ref_init "Ref.__init__" = true)
    (kf_Ref_init : PySem.W.keepIn K (.ref a_Ref_init) = true)
    (af_Ref_eq : PySem.W.findIn K (.ref cRef) "__eq__" = some (some (.ref a_Ref_eq)))
    (if_Ref_eq : PySem.W.isFn K (.ref a_Ref_eq) = true)
    (lf_Ref_eq : K.lookup a_Ref_eq = some ⟨ocf_Ref_eq, odf_Ref_eq, .func (PySem.W.fnOf "__eq__" "Ref.__eq__" (defArgs s_Ref_eq) (defBody s_Ref_eq) (defScope s_Ref_eq) .none kVf_Ref_eq dcf_Ref_eq pmf_Ref_eq anf_Ref_eq cdf_Ref_eq ctf_Ref_eq), slf_Ref_eq⟩)
    (cf_Ref_eq : PySem.W.codeIn K cdf_Ref_eq "Ref.__eq__" = true)
    (kf_Ref_eq : PySem.W.keepIn K (.ref a_Ref_eq) = true)
    (af_Parts_init : PySem.W.findIn K (.ref cParts) "__init__" = some (some (.ref a_Parts_init)))
    (if_Parts_init : PySem.W.isFn K (.ref a_Parts_init) = true)
    (lf_Parts_init : K.lookup a_Parts_init = some ⟨ocf_Parts_init, odf_Parts_init, .func (PySem.W.fnOf "__init__" "Parts.__init__" (defArgs s_Parts_init) (defBody s_Parts_init) (defScope s_Parts_init) .none kVf_Parts_init dcf_Parts_init pmf_Parts_init anf_Parts_init cdf_Parts_init ctf_Parts_init), slf_Parts_init⟩)
    (cf_Parts_init : PySem.W.codeIn K cdf_Parts_init "Parts.__init__" = true)
    (kf_Parts_init : PySem.W.keepIn K (.ref a_Parts_init) = true)
    (af_Table_init : PySem.W.findIn K (.ref cTable) "__init__" = some (some (.ref a_Table_init)))
    (if_Table_init : PySem.W.isFn K (.ref a_Table_init) = true)
    (lf_Table_init : K.lookup a_Table_init = some ⟨ocf_Table_init, odf_Table_init, .func (PySem.W.fnOf "__init__" "Table.__init__" (defArgs s_Table_init) (defBody s_Table_init) (defScope s_Table_init) .none kVf_Table_init dcf_Table_init pmf_Table_init anf_Table_init cdf_Table_init ctf_Table_init), slf_Table_init⟩)
    (cf_Table_init : PySem.W.codeIn K cdf_Table_init "Table.__init__" = true)
    (kf_Table_init : PySem.W.keepIn K (.ref a_Table_init) = true)
    (af_Table_has : PySem.W.findIn K (.ref cTable) "has" = some (some (.ref a_Table_has)))
    (if_Table_has : PySem.W.isFn K (.ref a_Table_has) = true)
    (lf_Table_has : K.lookup a_Table_has = some ⟨ocf_Table_has, odf_Table_has, .func (PySem.W.fnOf "has" "Table.has" (defArgs s_Table_has) (defBody s_Table_has) (defScope s_Table_has) .none kVf_Table_has dcf_Table_has pmf_Table_has anf_Table_has cdf_Table_has ctf_Table_has), slf_Table_has⟩)
    (cf_Table_has : PySem.W.codeIn K cdf_Table_has "Table.has" = true)
    (kf_Table_has : PySem.W.keepIn K (.ref a_Table_has) = true)
    (af_Table_value_of : PySem.W.findIn K (.ref cTable) "value_of" = some (some (.ref a_Table_value_of)))
    (if_Table_value_of : PySem.W.isFn K (.ref a_Table_value_of) = true)
    (lf_Table_value_of : K.lookup a_Table_value_of = some ⟨ocf_Table_value_of, odf_Table_value_of, .func (PySem.W.fnOf "value_of" "Table.value_of" (defArgs s_Table_value_of) (defBody s_Table_value_of) (defScope s_Table_value_of) .none kVf_Table_value_of dcf_Table_value_of pmf_Table_value_of anf_Table_value_of cdf_Table_value_of ctf_Table_value_of), slf_Table_value_of⟩)
    (cf_Table_value_of : PySem.W.codeIn K cdf_Table_value_of "Table.value_of" = true)
    (kf_Table_value_of : PySem.W.keepIn K (.ref a_Table_value_of) = true)
    (af_Table_put : PySem.W.findIn K (.ref cTable) "put" = some (some (.ref a_Table_put)))
    (if_Table_put : PySem.W.isFn K (.ref a_Table_put) = true)
    (lf_Table_put : K.lookup a_Table_put = some ⟨ocf_Table_put, odf_Table_put, .func (PySem.W.fnOf "put" "Table.put" (defArgs s_Table_put) (defBody s_Table_put) (defScope s_Table_put) .none kVf_Table_put dcf_Table_put pmf_Table_put anf_Table_put cdf_Table_put ctf_Table_put), slf_Table_put⟩)
    (cf_Table_put : PySem.W.codeIn K cdf_Table_put "Table.put" = true)
    (kf_Table_put : PySem.W.keepIn K (.ref a_Table_put) = true)
    (af_Table_pairs : PySem.W.findIn K (.ref cTable) "pairs" = some (some (.ref a_Table_pairs)))
    (if_Table_pairs : PySem.W.isFn K (.ref a_Table_pairs) = true)
    (lf_Table_pairs : K.lookup a_Table_pairs = some ⟨ocf_Table_pairs, odf_Table_pairs, .func (PySem.W.fnOf "pairs" "Table.pairs" (defArgs s_Table_pairs) (defBody s_Table_pairs) (defScope s_Table_pairs) .none kVf_Table_pairs dcf_Table_pairs pmf_Table_pairs anf_Table_pairs cdf_Table_pairs ctf_Table_pairs), slf_Table_pairs⟩)
    (cf_Table_pairs : PySem.W.codeIn K cdf_Table_pairs "Table.pairs" = true)
    (kf_Table_pairs : PySem.W.keepIn K (.ref a_Table_pairs) = true)
    (af_Table_many : PySem.W.findIn K (.ref cTable) "many" = some (some (.ref p_Table_many)))
    (pgtf_Table_many : PySem.W.specialIn K (.ref p_Table_many) "__get__" = some (some (.builtin "property.__get__")))
    (ptkf_Table_many : PySem.W.takesIn K (.ref p_Table_many) = some true)
    (prcf_Table_many : PySem.W.recIn K p_Table_many "property" = some (.ref a_Table_many :: rsf_Table_many))
    (lf_Table_many : K.lookup a_Table_many = some ⟨ocf_Table_many, odf_Table_many, .func (PySem.W.fnOf "many" "Table.many" (defArgs s_Table_many) (defBody s_Table_many) (defScope s_Table_many) .none kVf_Table_many dcf_Table_many pmf_Table_many anf_Table_many cdf_Table_many ctf_Table_many), slf_Table_many⟩)
    (cf_Table_many : PySem.W.codeIn K cdf_Table_many "Table.many" = true)
    (kf_Table_many : PySem.W.keepIn K (.ref a_Table_many) = true)
    (af_Instance_init : PySem.W.findIn K (.ref cInstance) "__init__" = some (some (.ref a_Instance_init)))
    (if_Instance_init : PySem.W.isFn K (.ref a_Instance_init) = true)
    (lf_Instance_init : K.lookup a_Instance_init = some ⟨ocf_Instance_init, odf_Instance_init, .func (PySem.W.fnOf "__init__" "Instance.__init__" (defArgs s_Instance_init) (defBody s_Instance_init) (defScope s_Instance_init) .none kVf_Instance_init dcf_Instance_init pmf_Instance_init anf_Instance_init cdf_Instance_init ctf_Instance_init), slf_Instance_init⟩)
    (cf_Instance_init : PySem.W.codeIn K cdf_Instance_init "Instance.__init__" = true)
    (kf_Instance_init : PySem.W.keepIn K (.ref a_Instance_init) = true)
    (af_Kin_init : PySem.W.findIn K (.ref cKin) "__init__" = some (some (.ref a_Kin_init)))
    (if_Kin_init : PySem.W.isFn K (.ref a_Kin_init) = true)
    (lf_Kin_init : K.lookup a_Kin_init = some ⟨ocf_Kin_init, odf_Kin_init, .func (PySem.W.fnOf "__init__" "Kin.__init__" (defArgs s_Kin_init) (defBody s_Kin_init) (defScope s_Kin_init) .none kVf_Kin_init dcf_Kin_init pmf_Kin_init anf_Kin_init cdf_Kin_init ctf_Kin_init), slf_Kin_init⟩)
    (cf_Kin_init : PySem.W.codeIn K cdf_Kin_init "Kin.__init__" = true)
    (kf_Kin_init : PySem.W.keepIn K (.ref a_Kin_init) = true)
    (af_Copies_init : PySem.W.findIn K (.ref cCopies) "__init__" = some (some (.ref a_Copies_init)))
    (if_Copies_init : PySem.W.isFn K (.ref a_Copies_init) = true)
    (lf_Copies_init : K.lookup a_Copies_init = some ⟨ocf_Copies_init, odf_Copies_init, .func (PySem.W.fnOf "__init__" "Copies.__init__" (defArgs s_Copies_init) (defBody s_Copies_init) (defScope s_Copies_init) .none kVf_Copies_init dcf_Copies_init pmf_Copies_init anf_Copies_init cdf_Copies_init ctf_Copies_init), slf_Copies_init⟩)
    (cf_Copies_init : PySem.W.codeIn K cdf_Copies_init "Copies.__init__" = true)
    (kf_Copies_init : PySem.W.keepIn K (.ref a_Copies_init) = true)
    (af_Copies_copy_for : PySem.W.findIn K (.ref cCopies) "copy_for" = some (some (.ref a_Copies_copy_for)))
    (if_Copies_copy_for : PySem.W.isFn K (.ref a_Copies_copy_for) = true)
    (lf_Copies_copy_for : K.lookup a_Copies_copy_for = some ⟨ocf_Copies_copy_for, odf_Copies_copy_for, .func (PySem.W.fnOf "copy_for" "Copies.copy_for" (defArgs s_Copies_copy_for) (defBody s_Copies_copy_for) (defScope s_Copies_copy_for) .none kVf_Copies_copy_for dcf_Copies_copy_for pmf_Copies_copy_for anf_Copies_copy_for cdf_Copies_copy_for ctf_Copies_copy_for), slf_Copies_copy_for⟩)
    (cf_Copies_copy_for : PySem.W.codeIn K cdf_Copies_copy_for "Copies.copy_for" = true)
    (kf_Copies_copy_for : PySem.W.keepIn K (.ref a_Copies_copy_for) = true)
    (af_Form_init : PySem.W.findIn K (.ref cForm) "__init__" = some (some (.ref a_Form_init)))
    (if_Form_init : PySem.W.isFn K (.ref a_Form_init) = true)
    (lf_Form_init : K.lookup a_Form_init = some ⟨ocf_Form_init, odf_Form_init, .func (PySem.W.fnOf "__init__" "Form.__init__" (defArgs s_Form_init) (defBody s_Form_init) (defScope s_Form_init) .none kVf_Form_init dcf_Form_init pmf_Form_init anf_Form_init cdf_Form_init ctf_Form_init), slf_Form_init⟩)
    (cf_Form_init : PySem.W.codeIn K cdf_Form_init "Form.__init__" = true)
    (kf_Form_init : PySem.W.keepIn K (.ref a_Form_init) = true)
    (af_Form_add : PySem.W.findIn K (.ref cForm) "add" = some (some (.ref a_Form_add)))
    (if_Form_add : PySem.W.isFn K (.ref a_Form_add) = true)
    (lf_Form_add : K.lookup a_Form_add = some ⟨ocf_Form_add, odf_Form_add, .func (PySem.W.fnOf "add" "Form.add" (defArgs s_Form_add) (defBody s_Form_add) (defScope s_Form_add) .none kVf_Form_add dcf_Form_add pmf_Form_add anf_Form_add cdf_Form_add ctf_Form_add), slf_Form_add⟩)
    (cf_Form_add : PySem.W.codeIn K cdf_Form_add "Form.add" = true)
    (kf_Form_add : PySem.W.keepIn K (.ref a_Form_add) = true)
    (af_Form_is_enough : PySem.W.findIn K (.ref cForm) "is_enough" = some (some (.ref a_Form_is_enough)))
    (if_Form_is_enough : PySem.W.isFn K (.ref a_Form_is_enough) = true)
    (lf_Form_is_enough : K.lookup a_Form_is_enough = some ⟨ocf_Form_is_enough, odf_Form_is_enough, .func (PySem.W.fnOf "is_enough" "Form.is_enough" (defArgs s_Form_is_enough) (defBody s_Form_is_enough) (defScope s_Form_is_enough) .none kVf_Form_is_enough dcf_Form_is_enough pmf_Form_is_enough anf_Form_is_enough cdf_Form_is_enough ctf_Form_is_enough), slf_Form_is_enough⟩)
    (cf_Form_is_enough : PySem.W.codeIn K cdf_Form_is_enough "Form.is_enough" = true)
    (kf_Form_is_enough : PySem.W.keepIn K (.ref a_Form_is_enough) = true)
    (af_Store_init : PySem.W.findIn K (.ref cStore) "__init__" = some (some (.ref a_Store_init)))
    (if_Store_init : PySem.W.isFn K (.ref a_Store_init) = true)
    (lf_Store_init : K.lookup a_Store_init = some ⟨ocf_Store_init, odf_Store_init, .func (PySem.W.fnOf "__init__" "Store.__init__" (defArgs s_Store_init) (defBody s_Store_init) (defScope s_Store_init) .none kVf_Store_init dcf_Store_init pmf_Store_init anf_Store_init cdf_Store_init ctf_Store_init), slf_Store_init⟩)
    (cf_Store_init : PySem.W.codeIn K cdf_Store_init "Store.__init__" = true)
    (kf_Store_init : PySem.W.keepIn K (.ref a_Store_init) = true)
    (af_Store_make : PySem.W.findIn K (.ref cStore) "make" = some (some (.ref a_Store_make)))
    (if_Store_make : PySem.W.isFn K (.ref a_Store_make) = true)
    (lf_Store_make : K.lookup a_Store_make = some ⟨ocf_Store_make, odf_Store_make, .func (PySem.W.fnOf "make" "Store.make" (defArgs s_Store_make) (defBody s_Store_make) (defScope s_Store_make) .none kVf_Store_make dcf_Store_make pmf_Store_make anf_Store_make cdf_Store_make ctf_Store_make), slf_Store_make⟩)
    (cf_Store_make : PySem.W.codeIn K cdf_Store_make "Store.make" = true)
    (kf_Store_make : PySem.W.keepIn K (.ref a_Store_make) = true)
    (af_Store_at : PySem.W.findIn K (.ref cStore) "at" = some (some (.ref a_Store_at)))
    (if_Store_at : PySem.W.isFn K (.ref a_Store_at) = true)
    (lf_Store_at : K.lookup a_Store_at = some ⟨ocf_Store_at, odf_Store_at, .func (PySem.W.fnOf "at" "Store.at" (defArgs s_Store_at) (defBody s_Store_at) (defScope s_Store_at) .none kVf_Store_at dcf_Store_at pmf_Store_at anf_Store_at cdf_Store_at ctf_Store_at), slf_Store_at⟩)
    (cf_Store_at : PySem.W.codeIn K cdf_Store_at "Store.at" = true)
    (kf_Store_at : PySem.W.keepIn K (.ref a_Store_at) = true)
    (qPERCENT : PySem.W.nsIn K mainGlobals "PERCENT" = some (some (.int 37 tkPERCENT)))
    (qMOST_HELD : PySem.W.nsIn K mainGlobals "MOST_HELD" = some (some (.int 1000 tkMOST_HELD)))
    (qDOUBTFUL_BITS : PySem.W.nsIn K mainGlobals "DOUBTFUL_BITS" = some (some (.int 997 tkDOUBTFUL_BITS)))
    (qDIGITS : PySem.W.nsIn K mainGlobals "DIGITS" = some (some (.str "0123456789abcdefghijklmnopqrstuvwxyz" tkDIGITS)))
    (qCAPITALS : PySem.W.nsIn K mainGlobals "CAPITALS" = some (some (.str "ABCDEFGHIJKLMNOPQRSTUVWXYZ" tkCAPITALS)))
    (qLEAST_BASE : PySem.W.nsIn K mainGlobals "LEAST_BASE" = some (some (.int 2 tkLEAST_BASE)))
    (qMOST_BASE : PySem.W.nsIn K mainGlobals "MOST_BASE" = some (some (.int 36 tkMOST_BASE)))
    (qMOST_AROUND : PySem.W.nsIn K mainGlobals "MOST_AROUND" = some (some (.int 10 tkMOST_AROUND)))
    (qNEWLINE : PySem.W.nsIn K mainGlobals "NEWLINE" = some (some (.int 10 tkNEWLINE)))
    (qFIRST : PySem.W.nsIn K mainGlobals "FIRST" = some (some (.int 32 tkFIRST)))
    (qLAST : PySem.W.nsIn K mainGlobals "LAST" = some (some (.int 126 tkLAST)))
    (k_Ref_Parts : PySem.W.kitOne K (.ref cRef) (.ref cParts) = some false)
    (k_Ref_Table : PySem.W.kitOne K (.ref cRef) (.ref cTable) = some false)
    (k_Ref_Instance : PySem.W.kitOne K (.ref cRef) (.ref cInstance) = some false)
    (k_Ref_Kin : PySem.W.kitOne K (.ref cRef) (.ref cKin) = some false)
    (k_Ref_bool : PySem.W.kitOne K (.ref cRef) (.type "bool") = some false)
    (k_Ref_int : PySem.W.kitOne K (.ref cRef) (.type "int") = some false)
    (k_Ref_str : PySem.W.kitOne K (.ref cRef) (.type "str") = some false)
    (k_Parts_Ref : PySem.W.kitOne K (.ref cParts) (.ref cRef) = some false)
    (k_Parts_Table : PySem.W.kitOne K (.ref cParts) (.ref cTable) = some false)
    (k_Parts_Instance : PySem.W.kitOne K (.ref cParts) (.ref cInstance) = some false)
    (k_Parts_Kin : PySem.W.kitOne K (.ref cParts) (.ref cKin) = some false)
    (k_Parts_bool : PySem.W.kitOne K (.ref cParts) (.type "bool") = some false)
    (k_Parts_int : PySem.W.kitOne K (.ref cParts) (.type "int") = some false)
    (k_Parts_str : PySem.W.kitOne K (.ref cParts) (.type "str") = some false)
    (k_Table_Ref : PySem.W.kitOne K (.ref cTable) (.ref cRef) = some false)
    (k_Table_Parts : PySem.W.kitOne K (.ref cTable) (.ref cParts) = some false)
    (k_Table_Instance : PySem.W.kitOne K (.ref cTable) (.ref cInstance) = some false)
    (k_Table_Kin : PySem.W.kitOne K (.ref cTable) (.ref cKin) = some false)
    (k_Table_bool : PySem.W.kitOne K (.ref cTable) (.type "bool") = some false)
    (k_Table_int : PySem.W.kitOne K (.ref cTable) (.type "int") = some false)
    (k_Table_str : PySem.W.kitOne K (.ref cTable) (.type "str") = some false)
    (k_Instance_Ref : PySem.W.kitOne K (.ref cInstance) (.ref cRef) = some false)
    (k_Instance_Parts : PySem.W.kitOne K (.ref cInstance) (.ref cParts) = some false)
    (k_Instance_Table : PySem.W.kitOne K (.ref cInstance) (.ref cTable) = some false)
    (k_Instance_Kin : PySem.W.kitOne K (.ref cInstance) (.ref cKin) = some false)
    (k_Instance_bool : PySem.W.kitOne K (.ref cInstance) (.type "bool") = some false)
    (k_Instance_int : PySem.W.kitOne K (.ref cInstance) (.type "int") = some false)
    (k_Instance_str : PySem.W.kitOne K (.ref cInstance) (.type "str") = some false)
    (k_Kin_Ref : PySem.W.kitOne K (.ref cKin) (.ref cRef) = some false)
    (k_Kin_Parts : PySem.W.kitOne K (.ref cKin) (.ref cParts) = some false)
    (k_Kin_Table : PySem.W.kitOne K (.ref cKin) (.ref cTable) = some false)
    (k_Kin_Instance : PySem.W.kitOne K (.ref cKin) (.ref cInstance) = some false)
    (k_Kin_bool : PySem.W.kitOne K (.ref cKin) (.type "bool") = some false)
    (k_Kin_int : PySem.W.kitOne K (.ref cKin) (.type "int") = some false)
    (k_Kin_str : PySem.W.kitOne K (.ref cKin) (.type "str") = some false)
    (k_Copies_Ref : PySem.W.kitOne K (.ref cCopies) (.ref cRef) = some false)
    (k_Copies_Parts : PySem.W.kitOne K (.ref cCopies) (.ref cParts) = some false)
    (k_Copies_Table : PySem.W.kitOne K (.ref cCopies) (.ref cTable) = some false)
    (k_Copies_Instance : PySem.W.kitOne K (.ref cCopies) (.ref cInstance) = some false)
    (k_Copies_Kin : PySem.W.kitOne K (.ref cCopies) (.ref cKin) = some false)
    (k_Copies_bool : PySem.W.kitOne K (.ref cCopies) (.type "bool") = some false)
    (k_Copies_int : PySem.W.kitOne K (.ref cCopies) (.type "int") = some false)
    (k_Copies_str : PySem.W.kitOne K (.ref cCopies) (.type "str") = some false)
    (k_Form_Ref : PySem.W.kitOne K (.ref cForm) (.ref cRef) = some false)
    (k_Form_Parts : PySem.W.kitOne K (.ref cForm) (.ref cParts) = some false)
    (k_Form_Table : PySem.W.kitOne K (.ref cForm) (.ref cTable) = some false)
    (k_Form_Instance : PySem.W.kitOne K (.ref cForm) (.ref cInstance) = some false)
    (k_Form_Kin : PySem.W.kitOne K (.ref cForm) (.ref cKin) = some false)
    (k_Form_bool : PySem.W.kitOne K (.ref cForm) (.type "bool") = some false)
    (k_Form_int : PySem.W.kitOne K (.ref cForm) (.type "int") = some false)
    (k_Form_str : PySem.W.kitOne K (.ref cForm) (.type "str") = some false)
    (k_Store_Ref : PySem.W.kitOne K (.ref cStore) (.ref cRef) = some false)
    (k_Store_Parts : PySem.W.kitOne K (.ref cStore) (.ref cParts) = some false)
    (k_Store_Table : PySem.W.kitOne K (.ref cStore) (.ref cTable) = some false)
    (k_Store_Instance : PySem.W.kitOne K (.ref cStore) (.ref cInstance) = some false)
    (k_Store_Kin : PySem.W.kitOne K (.ref cStore) (.ref cKin) = some false)
    (k_Store_bool : PySem.W.kitOne K (.ref cStore) (.type "bool") = some false)
    (k_Store_int : PySem.W.kitOne K (.ref cStore) (.type "int") = some false)
    (k_Store_str : PySem.W.kitOne K (.ref cStore) (.type "str") = some false)
    (k_NoneType_Ref : PySem.W.kitOne K (.type "NoneType") (.ref cRef) = some false)
    (k_NoneType_Parts : PySem.W.kitOne K (.type "NoneType") (.ref cParts) = some false)
    (k_NoneType_Table : PySem.W.kitOne K (.type "NoneType") (.ref cTable) = some false)
    (k_NoneType_Instance : PySem.W.kitOne K (.type "NoneType") (.ref cInstance) = some false)
    (k_NoneType_Kin : PySem.W.kitOne K (.type "NoneType") (.ref cKin) = some false)
    (k_bool_Ref : PySem.W.kitOne K (.type "bool") (.ref cRef) = some false)
    (k_bool_Parts : PySem.W.kitOne K (.type "bool") (.ref cParts) = some false)
    (k_bool_Table : PySem.W.kitOne K (.type "bool") (.ref cTable) = some false)
    (k_bool_Instance : PySem.W.kitOne K (.type "bool") (.ref cInstance) = some false)
    (k_bool_Kin : PySem.W.kitOne K (.type "bool") (.ref cKin) = some false)
    (k_int_Ref : PySem.W.kitOne K (.type "int") (.ref cRef) = some false)
    (k_int_Parts : PySem.W.kitOne K (.type "int") (.ref cParts) = some false)
    (k_int_Table : PySem.W.kitOne K (.type "int") (.ref cTable) = some false)
    (k_int_Instance : PySem.W.kitOne K (.type "int") (.ref cInstance) = some false)
    (k_int_Kin : PySem.W.kitOne K (.type "int") (.ref cKin) = some false)
    (k_str_Ref : PySem.W.kitOne K (.type "str") (.ref cRef) = some false)
    (k_str_Parts : PySem.W.kitOne K (.type "str") (.ref cParts) = some false)
    (k_str_Table : PySem.W.kitOne K (.type "str") (.ref cTable) = some false)
    (k_str_Instance : PySem.W.kitOne K (.type "str") (.ref cInstance) = some false)
    (k_str_Kin : PySem.W.kitOne K (.type "str") (.ref cKin) = some false)
    (k_tuple_Ref : PySem.W.kitOne K (.type "tuple") (.ref cRef) = some false)
    (k_tuple_Parts : PySem.W.kitOne K (.type "tuple") (.ref cParts) = some false)
    (k_tuple_Table : PySem.W.kitOne K (.type "tuple") (.ref cTable) = some false)
    (k_tuple_Instance : PySem.W.kitOne K (.type "tuple") (.ref cInstance) = some false)
    (k_tuple_Kin : PySem.W.kitOne K (.type "tuple") (.ref cKin) = some false)
    (k_list_Ref : PySem.W.kitOne K (.type "list") (.ref cRef) = some false)
    (k_list_Parts : PySem.W.kitOne K (.type "list") (.ref cParts) = some false)
    (k_list_Table : PySem.W.kitOne K (.type "list") (.ref cTable) = some false)
    (k_list_Instance : PySem.W.kitOne K (.type "list") (.ref cInstance) = some false)
    (k_list_Kin : PySem.W.kitOne K (.type "list") (.ref cKin) = some false)
    (nf_Ref_NoneType : PySem.W.notFirst K cRef (.type "NoneType") = true)
    (su_Ref_NoneType : PySem.W.subIn K (.ref cRef) (.type "NoneType") = some false)
    (nf_Ref_int : PySem.W.notFirst K cRef (.type "int") = true)
    (su_Ref_int : PySem.W.subIn K (.ref cRef) (.type "int") = some false)
    (nf_Ref_str : PySem.W.notFirst K cRef (.type "str") = true)
    (su_Ref_str : PySem.W.subIn K (.ref cRef) (.type "str") = some false)
    (nf_Ref_tuple : PySem.W.notFirst K cRef (.type "tuple") = true)
    (su_Ref_tuple : PySem.W.subIn K (.ref cRef) (.type "tuple") = some false)
    (nf_Ref_list : PySem.W.notFirst K cRef (.type "list") = true)
    (su_Ref_list : PySem.W.subIn K (.ref cRef) (.type "list") = some false)
    (nf_Ref_Parts : PySem.W.notFirst K cRef (.ref cParts) = true)
    (nf_Ref_Table : PySem.W.notFirst K cRef (.ref cTable) = true)
    (nf_Ref_Instance : PySem.W.notFirst K cRef (.ref cInstance) = true)
    (nf_Ref_Kin : PySem.W.notFirst K cRef (.ref cKin) = true)
    (nf_Ref_Copies : PySem.W.notFirst K cRef (.ref cCopies) = true)
    (nf_Ref_Form : PySem.W.notFirst K cRef (.ref cForm) = true)
    (nf_Ref_Store : PySem.W.notFirst K cRef (.ref cStore) = true)
    (zrange : PySem.W.nsIn K mainGlobals "range" = some none)
    (zlen : PySem.W.nsIn K mainGlobals "len" = some none)
    (zint : PySem.W.nsIn K mainGlobals "int" = some none)
    (zstr : PySem.W.nsIn K mainGlobals "str" = some none)
    (zbool : PySem.W.nsIn K mainGlobals "bool" = some none)
    (zisinstance : PySem.W.nsIn K mainGlobals "isinstance" = some none)
    (zlist : PySem.W.nsIn K mainGlobals "list" = some none)
    (zabs : PySem.W.nsIn K mainGlobals "abs" = some none)
    (zmin : PySem.W.nsIn K mainGlobals "min" = some none)
    (zmax : PySem.W.nsIn K mainGlobals "max" = some none)
    (zenumerate : PySem.W.nsIn K mainGlobals "enumerate" = some none)
    (zzip : PySem.W.nsIn K mainGlobals "zip" = some none)
    (zall : PySem.W.nsIn K mainGlobals "all" = some none)
    (umisqrt : PySem.W.nsIn K mainGlobals "isqrt" = some (some (.builtin "math.isqrt")))
    (umgcd : PySem.W.nsIn K mainGlobals "gcd" = some (some (.builtin "math.gcd")))
    (udFR : PySem.W.nsIn K mainGlobals "FREE_FUNCTIONS" = some (some (.ref aFR)))
    (ldFR : K.lookup aFR = some ⟨.type "dict", none, .dict esFR nnFR, #[]⟩)
    (kdFR : PySem.W.KeysLit w.params esFR.toList)
    (udFU : PySem.W.nsIn K mainGlobals "FUNCTIONS" = some (some (.ref aFU)))
    (ldFU : K.lookup aFU = some ⟨.type "dict", none, .dict esFU nnFU, #[]⟩)
    (kdFU : PySem.W.KeysLit w.params esFU.toList)
    (lowFR : (aFR == sysModules) = false)
    (miss0 : PySem.W.nsIn K aFR "abs" = some none)
    (nd0 : PySem.W.nsIn K aFU "abs" = some (some (.ref tA0)))
    (lt0 : K.lookup tA0 = some ⟨.type "tuple", tD0, .seq tI0 tN0, tO0⟩)
    (vt0 : Vals [.ref a_without_sign, .ref qA0] tI0.toList)
    (st0 : tI0.size ≤ sizeLine)
    (lq0 : K.lookup qA0 = some ⟨.type "tuple", qD0, .seq qI0 qN0, qO0⟩)
    (vq0 : Vals [.str "integer"] qI0.toList)
    (sq0 : qI0.size ≤ sizeLine)
    (miss1 : PySem.W.nsIn K aFR "pow" = some none)
    (nd1 : PySem.W.nsIn K aFU "pow" = some (some (.ref tA1)))
    (lt1 : K.lookup tA1 = some ⟨.type "tuple", tD1, .seq tI1 tN1, tO1⟩)
    (vt1 : Vals [.ref a_power, .ref qA1] tI1.toList)
    (st1 : tI1.size ≤ sizeLine)
    (lq1 : K.lookup qA1 = some ⟨.type "tuple", qD1, .seq qI1 qN1, qO1⟩)
    (vq1 : Vals [.str "integer", .str "integer"] qI1.toList)
    (sq1 : qI1.size ≤ sizeLine)
    (miss2 : PySem.W.nsIn K aFR "gcd" = some none)
    (nd2 : PySem.W.nsIn K aFU "gcd" = some (some (.ref tA2)))
    (lt2 : K.lookup tA2 = some ⟨.type "tuple", tD2, .seq tI2 tN2, tO2⟩)
    (vt2 : Vals [.ref a_divisor, .ref qA2] tI2.toList)
    (st2 : tI2.size ≤ sizeLine)
    (lq2 : K.lookup qA2 = some ⟨.type "tuple", qD2, .seq qI2 qN2, qO2⟩)
    (vq2 : Vals [.str "integer", .str "integer"] qI2.toList)
    (sq2 : qI2.size ≤ sizeLine)
    (miss3 : PySem.W.nsIn K aFR "sqrt" = some none)
    (nd3 : PySem.W.nsIn K aFU "sqrt" = some (some (.ref tA3)))
    (lt3 : K.lookup tA3 = some ⟨.type "tuple", tD3, .seq tI3 tN3, tO3⟩)
    (vt3 : Vals [.ref a_root, .ref qA3] tI3.toList)
    (st3 : tI3.size ≤ sizeLine)
    (lq3 : K.lookup qA3 = some ⟨.type "tuple", qD3, .seq qI3 qN3, qO3⟩)
    (vq3 : Vals [.str "integer"] qI3.toList)
    (sq3 : qI3.size ≤ sizeLine)
    (miss4 : PySem.W.nsIn K aFR "base" = some none)
    (nd4 : PySem.W.nsIn K aFU "base" = some (some (.ref tA4)))
    (lt4 : K.lookup tA4 = some ⟨.type "tuple", tD4, .seq tI4 tN4, tO4⟩)
    (vt4 : Vals [.ref a_in_base, .ref qA4] tI4.toList)
    (st4 : tI4.size ≤ sizeLine)
    (lq4 : K.lookup qA4 = some ⟨.type "tuple", qD4, .seq qI4 qN4, qO4⟩)
    (vq4 : Vals [.str "integer", .str "integer"] qI4.toList)
    (sq4 : qI4.size ≤ sizeLine)
    (miss5 : PySem.W.nsIn K aFR "parse" = some none)
    (nd5 : PySem.W.nsIn K aFU "parse" = some (some (.ref tA5)))
    (lt5 : K.lookup tA5 = some ⟨.type "tuple", tD5, .seq tI5 tN5, tO5⟩)
    (vt5 : Vals [.ref a_from_base, .ref qA5] tI5.toList)
    (st5 : tI5.size ≤ sizeLine)
    (lq5 : K.lookup qA5 = some ⟨.type "tuple", qD5, .seq qI5 qN5, qO5⟩)
    (vq5 : Vals [.str "text", .str "integer"] qI5.toList)
    (sq5 : qI5.size ≤ sizeLine)
    : ∃ fd : FuncData, (∀ (s : Shared) (v : Value), BindsTo s fd ⟨[v], []⟩ [("script", v)]) ∧ ∀ base : Heap, K.In base → base.Ns mainGlobals mg → FnOk l.prog w K mg base CX0 12 fa fd ["script"] (spLaw K) := by
  have e := hfa.symm.trans (PySem.W.mg_of X G alaw)
  cases e
  have KlRef : Cls K cRef := ⟨pgRef, hdRef, poRef, saRef⟩
  have tyRef : ∀ {H : Hp} {a dx : Addr} {fs : List (Str × V)}, H a = some (.ins cRef dx fs) → TyX K H (.ref a) (.ref cRef) := fun e => .base (.ins e KlRef haRef hnTy htTy hmRef)
  have KlParts : Cls K cParts := ⟨pgParts, hdParts, poParts, saParts⟩
  have tyParts : ∀ {H : Hp} {a dx : Addr} {fs : List (Str × V)}, H a = some (.ins cParts dx fs) → TyX K H (.ref a) (.ref cParts) := fun e => .base (.ins e KlParts haParts hnTy htTy hmParts)
  have KlTable : Cls K cTable := ⟨pgTable, hdTable, poTable, saTable⟩
  have tyTable : ∀ {H : Hp} {a dx : Addr} {fs : List (Str × V)}, H a = some (.ins cTable dx fs) → TyX K H (.ref a) (.ref cTable) := fun e => .base (.ins e KlTable haTable hnTy htTy hmTable)
  have KlInstance : Cls K cInstance := ⟨pgInstance, hdInstance, poInstance, saInstance⟩
  have tyInstance : ∀ {H : Hp} {a dx : Addr} {fs : List (Str × V)}, H a = some (.ins cInstance dx fs) → TyX K H (.ref a) (.ref cInstance) := fun e => .base (.ins e KlInstance haInstance hnTy htTy hmInstance)
  have KlKin : Cls K cKin := ⟨pgKin, hdKin, poKin, saKin⟩
  have tyKin : ∀ {H : Hp} {a dx : Addr} {fs : List (Str × V)}, H a = some (.ins cKin dx fs) → TyX K H (.ref a) (.ref cKin) := fun e => .base (.ins e KlKin haKin hnTy htTy hmKin)
  have KlCopies : Cls K cCopies := ⟨pgCopies, hdCopies, poCopies, saCopies⟩
  have tyCopies : ∀ {H : Hp} {a dx : Addr} {fs : List (Str × V)}, H a = some (.ins cCopies dx fs) → TyX K H (.ref a) (.ref cCopies) := fun e => .base (.ins e KlCopies haCopies hnTy htTy hmCopies)
  have KlForm : Cls K cForm := ⟨pgForm, hdForm, poForm, saForm⟩
  have tyForm : ∀ {H : Hp} {a dx : Addr} {fs : List (Str × V)}, H a = some (.ins cForm dx fs) → TyX K H (.ref a) (.ref cForm) := fun e => .base (.ins e KlForm haForm hnTy htTy hmForm)
  have KlStore : Cls K cStore := ⟨pgStore, hdStore, poStore, saStore⟩
  have tyStore : ∀ {H : Hp} {a dx : Addr} {fs : List (Str × V)}, H a = some (.ins cStore dx fs) → TyX K H (.ref a) (.ref cStore) := fun e => .base (.ins e KlStore haStore hnTy htTy hmStore)
  have oexScriptError : OexC K cScriptError := ⟨⟨nmScriptError, qScriptError, NScriptError, bsScriptError, _, snScriptError, subScriptError, abScriptError, colScriptError, ddScriptError, m0ScriptError, m1ScriptError, m2ScriptError, m3ScriptError, m5ScriptError, xScriptError, by rfl⟩, saScriptError, exScriptError, tpScriptError, kpScriptError⟩
  have TScriptError : Exn l.prog K mg cScriptError fScriptError "kind" "message" := ⟨oexScriptError, n1ScriptError, n2ScriptError, iScriptError, tiScriptError, ⟨gaScriptError, ggScriptError, exScriptError, hdScriptError⟩, PySem.W.exm_ref exScriptError hdScriptError tpScriptError ssScriptError⟩
  have UScriptError : Sup l.prog K mg cdaScriptError ccScriptError cScriptError cScriptError := ⟨⟨_, _, _, _, _, _, coScriptError, cvScriptError, fiScriptError⟩, ⟨_, _, _, ceScriptError⟩, toSup, PySem.W.mg_none_of X G suSup, (PySem.W.any_some hdScriptError).imp fun _ h => h.1, mrScriptError, opSup, ksScriptError, vaScriptError⟩
  have bScriptError : Binds K (PySem.W.ksFn "__init__" "ScriptError.__init__" (defArgs sx_ScriptError) (defBody sx_ScriptError) (defScope sx_ScriptError) .none kVScriptError dcScriptError pmScriptError anScriptError (.ref cdaScriptError) ctScriptError ccScriptError) ["self", "kind", "message"] [] := .all fun us hl => match us, hl with | [_, _, _], _ => rfl
  have ecScriptError : ExcC K cScriptError := ⟨gaScriptError, ggScriptError, exScriptError, hdScriptError, haScriptError, hnTy, htTy, hmScriptError⟩
  have Ff_tagged := fun_mk (st := s_tagged) lf_tagged cf_tagged kf_tagged
  have bf_tagged := Ff_tagged.binds (ps := ["key"]) fun _ _ _ _ _ _ us hl => match us, hl with | [_], _ => rfl
  have glf_tagged := PySem.W.mg_of X G af_tagged
  have Ff_kind_of := fun_mk (st := s_kind_of) lf_kind_of cf_kind_of kf_kind_of
  have bf_kind_of := Ff_kind_of.binds (ps := ["store", "value"]) fun _ _ _ _ _ _ us hl => match us, hl with | [_, _], _ => rfl
  have glf_kind_of := PySem.W.mg_of X G af_kind_of
  have Ff_kind_of_thing := fun_mk (st := s_kind_of_thing) lf_kind_of_thing cf_kind_of_thing kf_kind_of_thing
  have bf_kind_of_thing := Ff_kind_of_thing.binds (ps := ["thing"]) fun _ _ _ _ _ _ us hl => match us, hl with | [_], _ => rfl
  have glf_kind_of_thing := PySem.W.mg_of X G af_kind_of_thing
  have Ff_is_true := fun_mk (st := s_is_true) lf_is_true cf_is_true kf_is_true
  have bf_is_true := Ff_is_true.binds (ps := ["value"]) fun _ _ _ _ _ _ us hl => match us, hl with | [_], _ => rfl
  have glf_is_true := PySem.W.mg_of X G af_is_true
  have Ff_equal := fun_mk (st := s_equal) lf_equal cf_equal kf_equal
  have bf_equal := Ff_equal.binds (ps := ["x", "y"]) fun _ _ _ _ _ _ us hl => match us, hl with | [_, _], _ => rfl
  have glf_equal := PySem.W.mg_of X G af_equal
  have Ff_is_key := fun_mk (st := s_is_key) lf_is_key cf_is_key kf_is_key
  have bf_is_key := Ff_is_key.binds (ps := ["value"]) fun _ _ _ _ _ _ us hl => match us, hl with | [_], _ => rfl
  have glf_is_key := PySem.W.mg_of X G af_is_key
  have Ff_check_size := fun_mk (st := s_check_size) lf_check_size cf_check_size kf_check_size
  have bf_check_size := Ff_check_size.binds (ps := ["size"]) fun _ _ _ _ _ _ us hl => match us, hl with | [_], _ => rfl
  have glf_check_size := PySem.W.mg_of X G af_check_size
  have Ff_is_bounded := fun_mk (st := s_is_bounded) lf_is_bounded cf_is_bounded kf_is_bounded
  have bf_is_bounded := Ff_is_bounded.binds (ps := ["number"]) fun _ _ _ _ _ _ us hl => match us, hl with | [_], _ => rfl
  have glf_is_bounded := PySem.W.mg_of X G af_is_bounded
  have Ff_checked_integer := fun_mk (st := s_checked_integer) lf_checked_integer cf_checked_integer kf_checked_integer
  have bf_checked_integer := Ff_checked_integer.binds (ps := ["number"]) fun _ _ _ _ _ _ us hl => match us, hl with | [_], _ => rfl
  have glf_checked_integer := PySem.W.mg_of X G af_checked_integer
  have Ff_check_count := fun_mk (st := s_check_count) lf_check_count cf_check_count kf_check_count
  have bf_check_count := Ff_check_count.binds (ps := ["values", "wanted"]) fun _ _ _ _ _ _ us hl => match us, hl with | [_, _], _ => rfl
  have glf_check_count := PySem.W.mg_of X G af_check_count
  have Ff_check_arguments := fun_mk (st := s_check_arguments) lf_check_arguments cf_check_arguments kf_check_arguments
  have bf_check_arguments := Ff_check_arguments.binds (ps := ["store", "values", "kinds"]) fun _ _ _ _ _ _ us hl => match us, hl with | [_, _, _], _ => rfl
  have glf_check_arguments := PySem.W.mg_of X G af_check_arguments
  have Ff_check_kind := fun_mk (st := s_check_kind) lf_check_kind cf_check_kind kf_check_kind
  have bf_check_kind := Ff_check_kind.binds (ps := ["store", "value", "kind"]) fun _ _ _ _ _ _ us hl => match us, hl with | [_, _, _], _ => rfl
  have glf_check_kind := PySem.W.mg_of X G af_check_kind
  have Ff_check_alike := fun_mk (st := s_check_alike) lf_check_alike cf_check_alike kf_check_alike
  have bf_check_alike := Ff_check_alike.binds (ps := ["store", "values"]) fun _ _ _ _ _ _ us hl => match us, hl with | [_, _], _ => rfl
  have glf_check_alike := PySem.W.mg_of X G af_check_alike
  have Ff_copy_of := fun_mk (st := s_copy_of) lf_copy_of cf_copy_of kf_copy_of
  have bf_copy_of := Ff_copy_of.binds (ps := ["store", "value"]) fun _ _ _ _ _ _ us hl => match us, hl with | [_, _], _ => rfl
  have glf_copy_of := PySem.W.mg_of X G af_copy_of
  have Ff_is_holder := fun_mk (st := s_is_holder) lf_is_holder cf_is_holder kf_is_holder
  have bf_is_holder := Ff_is_holder.binds (ps := ["store", "value"]) fun _ _ _ _ _ _ us hl => match us, hl with | [_, _], _ => rfl
  have glf_is_holder := PySem.W.mg_of X G af_is_holder
  have Ff_fill := fun_mk (st := s_fill) lf_fill cf_fill kf_fill
  have bf_fill := Ff_fill.binds (ps := ["copies", "original"]) fun _ _ _ _ _ _ us hl => match us, hl with | [_, _], _ => rfl
  have glf_fill := PySem.W.mg_of X G af_fill
  have Ff_same := fun_mk (st := s_same) lf_same cf_same kf_same
  have bf_same := Ff_same.binds (ps := ["store", "x", "y"]) fun _ _ _ _ _ _ us hl => match us, hl with | [_, _, _], _ => rfl
  have glf_same := PySem.W.mg_of X G af_same
  have Ff_pairs_within := fun_mk (st := s_pairs_within) lf_pairs_within cf_pairs_within kf_pairs_within
  have bf_pairs_within := Ff_pairs_within.binds (ps := ["thing", "match"]) fun _ _ _ _ _ _ us hl => match us, hl with | [_, _], _ => rfl
  have glf_pairs_within := PySem.W.mg_of X G af_pairs_within
  have Ff_raised := fun_mk (st := s_raised) lf_raised cf_raised kf_raised
  have bf_raised := Ff_raised.binds (ps := ["number", "exponent"]) fun _ _ _ _ _ _ us hl => match us, hl with | [_, _], _ => rfl
  have glf_raised := PySem.W.mg_of X G af_raised
  have Ff_small_power := fun_mk (st := s_small_power) lf_small_power cf_small_power kf_small_power
  have bf_small_power := Ff_small_power.binds (ps := ["number", "exponent"]) fun _ _ _ _ _ _ us hl => match us, hl with | [_, _], _ => rfl
  have glf_small_power := PySem.W.mg_of X G af_small_power
  have Ff_root_of := fun_mk (st := s_root_of) lf_root_of cf_root_of kf_root_of
  have bf_root_of := Ff_root_of.binds (ps := ["number"]) fun _ _ _ _ _ _ us hl => match us, hl with | [_], _ => rfl
  have glf_root_of := PySem.W.mg_of X G af_root_of
  have Ff_check_base := fun_mk (st := s_check_base) lf_check_base cf_check_base kf_check_base
  have bf_check_base := Ff_check_base.binds (ps := ["base"]) fun _ _ _ _ _ _ us hl => match us, hl with | [_], _ => rfl
  have glf_check_base := PySem.W.mg_of X G af_check_base
  have Ff_written_in := fun_mk (st := s_written_in) lf_written_in cf_written_in kf_written_in
  have bf_written_in := Ff_written_in.binds (ps := ["number", "base"]) fun _ _ _ _ _ _ us hl => match us, hl with | [_, _], _ => rfl
  have glf_written_in := PySem.W.mg_of X G af_written_in
  have Ff_read_in := fun_mk (st := s_read_in) lf_read_in cf_read_in kf_read_in
  have bf_read_in := Ff_read_in.binds (ps := ["text", "base"]) fun _ _ _ _ _ _ us hl => match us, hl with | [_, _], _ => rfl
  have glf_read_in := PySem.W.mg_of X G af_read_in
  have Ff_place_of_digit := fun_mk (st := s_place_of_digit) lf_place_of_digit cf_place_of_digit kf_place_of_digit
  have bf_place_of_digit := Ff_place_of_digit.binds (ps := ["sign"]) fun _ _ _ _ _ _ us hl => match us, hl with | [_], _ => rfl
  have glf_place_of_digit := PySem.W.mg_of X G af_place_of_digit
  have Ff_make_list := fun_mk (st := s_make_list) lf_make_list cf_make_list kf_make_list
  have bf_make_list := Ff_make_list.binds (ps := ["store", "values"]) fun _ _ _ _ _ _ us hl => match us, hl with | [_, _], _ => rfl
  have glf_make_list := PySem.W.mg_of X G af_make_list
  have Ff_quoted := fun_mk (st := s_quoted) lf_quoted cf_quoted kf_quoted
  have bf_quoted := Ff_quoted.binds (ps := ["text"]) fun _ _ _ _ _ _ us hl => match us, hl with | [_], _ => rfl
  have glf_quoted := PySem.W.mg_of X G af_quoted
  have Ff_write_value := fun_mk (st := s_write_value) lf_write_value cf_write_value kf_write_value
  have bf_write_value := Ff_write_value.binds (ps := ["store", "value", "most"]) fun _ _ _ _ _ _ us hl => match us, hl with | [_, _, _], _ => rfl
  have glf_write_value := PySem.W.mg_of X G af_write_value
  have Ff_text_of := fun_mk (st := s_text_of) lf_text_of cf_text_of kf_text_of
  have bf_text_of := Ff_text_of.binds (ps := ["store", "value", "most"]) fun _ _ _ _ _ _ us hl => match us, hl with | [_, _, _], _ => rfl
  have glf_text_of := PySem.W.mg_of X G af_text_of
  have Ff_write := fun_mk (st := s_write) lf_write cf_write kf_write
  have bf_write := Ff_write.binds (ps := ["form", "value"]) fun _ _ _ _ _ _ us hl => match us, hl with | [_, _], _ => rfl
  have glf_write := PySem.W.mg_of X G af_write
  have Ff_write_around := fun_mk (st := s_write_around) lf_write_around cf_write_around kf_write_around
  have bf_write_around := Ff_write_around.binds (ps := ["form", "ref", "opening", "closing"]) fun _ _ _ _ _ _ us hl => match us, hl with | [_, _, _, _], _ => rfl
  have glf_write_around := PySem.W.mg_of X G af_write_around
  have Ff_write_held := fun_mk (st := s_write_held) lf_write_held cf_write_held kf_write_held
  have bf_write_held := Ff_write_held.binds (ps := ["form", "thing"]) fun _ _ _ _ _ _ us hl => match us, hl with | [_, _], _ => rfl
  have glf_write_held := PySem.W.mg_of X G af_write_held
  have Ff_held_by := fun_mk (st := s_held_by) lf_held_by cf_held_by kf_held_by
  have bf_held_by := Ff_held_by.binds (ps := ["thing"]) fun _ _ _ _ _ _ us hl => match us, hl with | [_], _ => rfl
  have glf_held_by := PySem.W.mg_of X G af_held_by
  have Ff_plain_form := fun_mk (st := s_plain_form) lf_plain_form cf_plain_form kf_plain_form
  have bf_plain_form := Ff_plain_form.binds (ps := ["form", "value", "thing"]) fun _ _ _ _ _ _ us hl => match us, hl with | [_, _, _], _ => rfl
  have glf_plain_form := PySem.W.mg_of X G af_plain_form
  have Ff_joined := fun_mk (st := s_joined) lf_joined cf_joined kf_joined
  have bf_joined := Ff_joined.binds (ps := ["store", "values", "between"]) fun _ _ _ _ _ _ us hl => match us, hl with | [_, _, _], _ => rfl
  have glf_joined := PySem.W.mg_of X G af_joined
  have Ff_call_builtin := fun_mk (st := s_call_builtin) lf_call_builtin cf_call_builtin kf_call_builtin
  have bf_call_builtin := Ff_call_builtin.binds (ps := ["store", "name", "values"]) fun _ _ _ _ _ _ us hl => match us, hl with | [_, _, _], _ => rfl
  have glf_call_builtin := PySem.W.mg_of X G af_call_builtin
  have Ff_print_line := fun_mk (st := s_print_line) lf_print_line cf_print_line kf_print_line
  have bf_print_line := Ff_print_line.binds (ps := ["store", "values"]) fun _ _ _ _ _ _ us hl => match us, hl with | [_, _], _ => rfl
  have glf_print_line := PySem.W.mg_of X G af_print_line
  have Ff_integers_between := fun_mk (st := s_integers_between) lf_integers_between cf_integers_between kf_integers_between
  have bf_integers_between := Ff_integers_between.binds (ps := ["store", "values"]) fun _ _ _ _ _ _ us hl => match us, hl with | [_, _], _ => rfl
  have glf_integers_between := PySem.W.mg_of X G af_integers_between
  have Ff_least := fun_mk (st := s_least) lf_least cf_least kf_least
  have bf_least := Ff_least.binds (ps := ["store", "values"]) fun _ _ _ _ _ _ us hl => match us, hl with | [_, _], _ => rfl
  have glf_least := PySem.W.mg_of X G af_least
  have Ff_greatest := fun_mk (st := s_greatest) lf_greatest cf_greatest kf_greatest
  have bf_greatest := Ff_greatest.binds (ps := ["store", "values"]) fun _ _ _ _ _ _ us hl => match us, hl with | [_, _], _ => rfl
  have glf_greatest := PySem.W.mg_of X G af_greatest
  have Ff_choices := fun_mk (st := s_choices) lf_choices cf_choices kf_choices
  have bf_choices := Ff_choices.binds (ps := ["store", "values"]) fun _ _ _ _ _ _ us hl => match us, hl with | [_, _], _ => rfl
  have glf_choices := PySem.W.mg_of X G af_choices
  have Ff_read_line := fun_mk (st := s_read_line) lf_read_line cf_read_line kf_read_line
  have bf_read_line := Ff_read_line.binds (ps := ["store"]) fun _ _ _ _ _ _ us hl => match us, hl with | [_], _ => rfl
  have glf_read_line := PySem.W.mg_of X G af_read_line
  have Ff_as_text := fun_mk (st := s_as_text) lf_as_text cf_as_text kf_as_text
  have bf_as_text := Ff_as_text.binds (ps := ["store", "x"]) fun _ _ _ _ _ _ us hl => match us, hl with | [_, _], _ => rfl
  have glf_as_text := PySem.W.mg_of X G af_as_text
  have Ff_as_integer := fun_mk (st := s_as_integer) lf_as_integer cf_as_integer kf_as_integer
  have bf_as_integer := Ff_as_integer.binds (ps := ["store", "x"]) fun _ _ _ _ _ _ us hl => match us, hl with | [_, _], _ => rfl
  have glf_as_integer := PySem.W.mg_of X G af_as_integer
  have Ff_length := fun_mk (st := s_length) lf_length cf_length kf_length
  have bf_length := Ff_length.binds (ps := ["store", "x"]) fun _ _ _ _ _ _ us hl => match us, hl with | [_, _], _ => rfl
  have glf_length := PySem.W.mg_of X G af_length
  have Ff_kind := fun_mk (st := s_kind) lf_kind cf_kind kf_kind
  have bf_kind := Ff_kind.binds (ps := ["store", "x"]) fun _ _ _ _ _ _ us hl => match us, hl with | [_, _], _ => rfl
  have glf_kind := PySem.W.mg_of X G af_kind
  have Ff_without_sign := fun_mk (st := s_without_sign) lf_without_sign cf_without_sign kf_without_sign
  have bf_without_sign := Ff_without_sign.binds (ps := ["store", "number"]) fun _ _ _ _ _ _ us hl => match us, hl with | [_, _], _ => rfl
  have glf_without_sign := PySem.W.mg_of X G af_without_sign
  have Ff_power := fun_mk (st := s_power) lf_power cf_power kf_power
  have bf_power := Ff_power.binds (ps := ["store", "number", "exponent"]) fun _ _ _ _ _ _ us hl => match us, hl with | [_, _, _], _ => rfl
  have glf_power := PySem.W.mg_of X G af_power
  have Ff_divisor := fun_mk (st := s_divisor) lf_divisor cf_divisor kf_divisor
  have bf_divisor := Ff_divisor.binds (ps := ["store", "number", "other"]) fun _ _ _ _ _ _ us hl => match us, hl with | [_, _, _], _ => rfl
  have glf_divisor := PySem.W.mg_of X G af_divisor
  have Ff_root := fun_mk (st := s_root) lf_root cf_root kf_root
  have bf_root := Ff_root.binds (ps := ["store", "number"]) fun _ _ _ _ _ _ us hl => match us, hl with | [_, _], _ => rfl
  have glf_root := PySem.W.mg_of X G af_root
  have Ff_in_base := fun_mk (st := s_in_base) lf_in_base cf_in_base kf_in_base
  have bf_in_base := Ff_in_base.binds (ps := ["store", "number", "base"]) fun _ _ _ _ _ _ us hl => match us, hl with | [_, _, _], _ => rfl
  have glf_in_base := PySem.W.mg_of X G af_in_base
  have Ff_from_base := fun_mk (st := s_from_base) lf_from_base cf_from_base kf_from_base
  have bf_from_base := Ff_from_base.binds (ps := ["store", "text", "base"]) fun _ _ _ _ _ _ us hl => match us, hl with | [_, _, _], _ => rfl
  have glf_from_base := PySem.W.mg_of X G af_from_base
  have Ff_character := fun_mk (st := s_character) lf_character cf_character kf_character
  have bf_character := Ff_character.binds (ps := ["store", "number"]) fun _ _ _ _ _ _ us hl => match us, hl with | [_, _], _ => rfl
  have glf_character := PySem.W.mg_of X G af_character
  have Ff_assert_true := fun_mk (st := s_assert_true) lf_assert_true cf_assert_true kf_assert_true
  have bf_assert_true := Ff_assert_true.binds (ps := ["store", "x", "message"]) fun _ _ _ _ _ _ us hl => match us, hl with | [_, _, _], _ => rfl
  have glf_assert_true := PySem.W.mg_of X G af_assert_true
  have Ff_copy := fun_mk (st := s_copy) lf_copy cf_copy kf_copy
  have bf_copy := Ff_copy.binds (ps := ["store", "x"]) fun _ _ _ _ _ _ us hl => match us, hl with | [_, _], _ => rfl
  have glf_copy := PySem.W.mg_of X G af_copy
  have Ff_equals := fun_mk (st := s_equals) lf_equals cf_equals kf_equals
  have bf_equals := Ff_equals.binds (ps := ["store", "x", "y"]) fun _ _ _ _ _ _ us hl => match us, hl with | [_, _, _], _ => rfl
  have glf_equals := PySem.W.mg_of X G af_equals
  have Ff_law_cell := fun_mk (st := s_law_cell) lf_law_cell cf_law_cell kf_law_cell
  have bf_law_cell := Ff_law_cell.binds (ps := ["script", "k"]) fun _ _ _ _ _ _ us hl => match us, hl with | [_, _], _ => rfl
  have glf_law_cell := PySem.W.mg_of X G af_law_cell
  have Ff_law_is_integer := fun_mk (st := s_law_is_integer) lf_law_is_integer cf_law_is_integer kf_law_is_integer
  have bf_law_is_integer := Ff_law_is_integer.binds (ps := ["told"]) fun _ _ _ _ _ _ us hl => match us, hl with | [_], _ => rfl
  have glf_law_is_integer := PySem.W.mg_of X G af_law_is_integer
  have Ff_law_begin := fun_mk (st := s_law_begin) lf_law_begin cf_law_begin kf_law_begin
  have bf_law_begin := Ff_law_begin.binds (ps := ["script", "k"]) fun _ _ _ _ _ _ us hl => match us, hl with | [_, _], _ => rfl
  have glf_law_begin := PySem.W.mg_of X G af_law_begin
  have Ff_law_draw := fun_mk (st := s_law_draw) lf_law_draw cf_law_draw kf_law_draw
  have bf_law_draw := Ff_law_draw.binds (ps := ["state", "many"]) fun _ _ _ _ _ _ us hl => match us, hl with | [_, _], _ => rfl
  have glf_law_draw := PySem.W.mg_of X G af_law_draw
  have Ff_law_pick := fun_mk (st := s_law_pick) lf_law_pick cf_law_pick kf_law_pick
  have bf_law_pick := Ff_law_pick.binds (ps := ["state", "row"]) fun _ _ _ _ _ _ us hl => match us, hl with | [_, _], _ => rfl
  have glf_law_pick := PySem.W.mg_of X G af_law_pick
  have Ff_law_greatest := fun_mk (st := s_law_greatest) lf_law_greatest cf_law_greatest kf_law_greatest
  have bf_law_greatest := Ff_law_greatest.binds (ps := []) fun _ _ _ _ _ _ us hl => match us, hl with | [], _ => rfl
  have glf_law_greatest := PySem.W.mg_of X G af_law_greatest
  have Ff_law_number := fun_mk (st := s_law_number) lf_law_number cf_law_number kf_law_number
  have bf_law_number := Ff_law_number.binds (ps := ["state"]) fun _ _ _ _ _ _ us hl => match us, hl with | [_], _ => rfl
  have glf_law_number := PySem.W.mg_of X G af_law_number
  have Ff_law_call := fun_mk (st := s_law_call) lf_law_call cf_law_call kf_law_call
  have bf_law_call := Ff_law_call.binds (ps := ["name", "values"]) fun _ _ _ _ _ _ us hl => match us, hl with | [_, _], _ => rfl
  have glf_law_call := PySem.W.mg_of X G af_law_call
  have Ff_law_root := fun_mk (st := s_law_root) lf_law_root cf_law_root kf_law_root
  have bf_law_root := Ff_law_root.binds (ps := ["a"]) fun _ _ _ _ _ _ us hl => match us, hl with | [_], _ => rfl
  have glf_law_root := PySem.W.mg_of X G af_law_root
  have Ff_law_divisor := fun_mk (st := s_law_divisor) lf_law_divisor cf_law_divisor kf_law_divisor
  have bf_law_divisor := Ff_law_divisor.binds (ps := ["a", "b"]) fun _ _ _ _ _ _ us hl => match us, hl with | [_, _], _ => rfl
  have glf_law_divisor := PySem.W.mg_of X G af_law_divisor
  have Ff_law_power := fun_mk (st := s_law_power) lf_law_power cf_law_power kf_law_power
  have bf_law_power := Ff_law_power.binds (ps := ["a", "b"]) fun _ _ _ _ _ _ us hl => match us, hl with | [_, _], _ => rfl
  have glf_law_power := PySem.W.mg_of X G af_law_power
  have Ff_law_digits := fun_mk (st := s_law_digits) lf_law_digits cf_law_digits kf_law_digits
  have bf_law_digits := Ff_law_digits.binds (ps := ["a", "b"]) fun _ _ _ _ _ _ us hl => match us, hl with | [_, _], _ => rfl
  have glf_law_digits := PySem.W.mg_of X G af_law_digits
  have Ff_law_base := fun_mk (st := s_law_base) lf_law_base cf_law_base kf_law_base
  have bf_law_base := Ff_law_base.binds (ps := ["a", "b"]) fun _ _ _ _ _ _ us hl => match us, hl with | [_, _], _ => rfl
  have glf_law_base := PySem.W.mg_of X G af_law_base
  have Ff_law_no_number := fun_mk (st := s_law_no_number) lf_law_no_number cf_law_no_number kf_law_no_number
  have bf_law_no_number := Ff_law_no_number.binds (ps := ["text", "b"]) fun _ _ _ _ _ _ us hl => match us, hl with | [_, _], _ => rfl
  have glf_law_no_number := PySem.W.mg_of X G af_law_no_number
  have Flaw := fun_mk (st := s_law) llaw claw klaw
  have gllaw := PySem.W.mg_of X G alaw
  have Ff_Ref_init := fun_mk (st := s_Ref_init) lf_Ref_init cf_Ref_init kf_Ref_init
  have bf_Ref_init := Ff_Ref_init.binds (ps := ["self", "number"]) fun _ _ _ _ _ _ us hl => match us, hl with | [_, _], _ => rfl
  have Kf_Ref_init : Mk K cRef a_Ref_init := ⟨mkRef, af_Ref_init, if_Ref_init, kcRef⟩
  have Ff_Ref_eq := fun_mk (st := s_Ref_eq) lf_Ref_eq cf_Ref_eq kf_Ref_eq
  have bf_Ref_eq := Ff_Ref_eq.binds (ps := ["self", "other"]) fun _ _ _ _ _ _ us hl => match us, hl with | [_, _], _ => rfl
  have Mf_Ref_eq : Meth K cRef "__eq__" a_Ref_eq := ⟨af_Ref_eq, if_Ref_eq, kf_Ref_eq⟩
  have Ff_Parts_init := fun_mk (st := s_Parts_init) lf_Parts_init cf_Parts_init kf_Parts_init
  have bf_Parts_init := Ff_Parts_init.binds (ps := ["self", "held"]) fun _ _ _ _ _ _ us hl => match us, hl with | [_, _], _ => rfl
  have Kf_Parts_init : Mk K cParts a_Parts_init := ⟨mkParts, af_Parts_init, if_Parts_init, kcParts⟩
  have Ff_Table_init := fun_mk (st := s_Table_init) lf_Table_init cf_Table_init kf_Table_init
  have bf_Table_init := Ff_Table_init.binds (ps := ["self"]) fun _ _ _ _ _ _ us hl => match us, hl with | [_], _ => rfl
  have Kf_Table_init : Mk K cTable a_Table_init := ⟨mkTable, af_Table_init, if_Table_init, kcTable⟩
  have Ff_Table_has := fun_mk (st := s_Table_has) lf_Table_has cf_Table_has kf_Table_has
  have bf_Table_has := Ff_Table_has.binds (ps := ["self", "key"]) fun _ _ _ _ _ _ us hl => match us, hl with | [_, _], _ => rfl
  have Mf_Table_has : Meth K cTable "has" a_Table_has := ⟨af_Table_has, if_Table_has, kf_Table_has⟩
  have Ff_Table_value_of := fun_mk (st := s_Table_value_of) lf_Table_value_of cf_Table_value_of kf_Table_value_of
  have bf_Table_value_of := Ff_Table_value_of.binds (ps := ["self", "key"]) fun _ _ _ _ _ _ us hl => match us, hl with | [_, _], _ => rfl
  have Mf_Table_value_of : Meth K cTable "value_of" a_Table_value_of := ⟨af_Table_value_of, if_Table_value_of, kf_Table_value_of⟩
  have Ff_Table_put := fun_mk (st := s_Table_put) lf_Table_put cf_Table_put kf_Table_put
  have bf_Table_put := Ff_Table_put.binds (ps := ["self", "key", "value"]) fun _ _ _ _ _ _ us hl => match us, hl with | [_, _, _], _ => rfl
  have Mf_Table_put : Meth K cTable "put" a_Table_put := ⟨af_Table_put, if_Table_put, kf_Table_put⟩
  have Ff_Table_pairs := fun_mk (st := s_Table_pairs) lf_Table_pairs cf_Table_pairs kf_Table_pairs
  have bf_Table_pairs := Ff_Table_pairs.binds (ps := ["self"]) fun _ _ _ _ _ _ us hl => match us, hl with | [_], _ => rfl
  have Mf_Table_pairs : Meth K cTable "pairs" a_Table_pairs := ⟨af_Table_pairs, if_Table_pairs, kf_Table_pairs⟩
  have Ff_Table_many := fun_mk (st := s_Table_many) lf_Table_many cf_Table_many kf_Table_many
  have bf_Table_many := Ff_Table_many.binds (ps := ["self"]) fun _ _ _ _ _ _ us hl => match us, hl with | [_], _ => rfl
  have Pf_Table_many : PropOf K cTable "many" p_Table_many a_Table_many := ⟨af_Table_many, pgtf_Table_many, ptkf_Table_many, _, prcf_Table_many⟩
  have Ff_Instance_init := fun_mk (st := s_Instance_init) lf_Instance_init cf_Instance_init kf_Instance_init
  have bf_Instance_init := Ff_Instance_init.binds (ps := ["self", "owner"]) fun _ _ _ _ _ _ us hl => match us, hl with | [_, _], _ => rfl
  have Kf_Instance_init : Mk K cInstance a_Instance_init := ⟨mkInstance, af_Instance_init, if_Instance_init, kcInstance⟩
  have Ff_Kin_init := fun_mk (st := s_Kin_init) lf_Kin_init cf_Kin_init kf_Kin_init
  have bf_Kin_init := Ff_Kin_init.binds (ps := ["self", "name", "parent"]) fun _ _ _ _ _ _ us hl => match us, hl with | [_, _, _], _ => rfl
  have Kf_Kin_init : Mk K cKin a_Kin_init := ⟨mkKin, af_Kin_init, if_Kin_init, kcKin⟩
  have Ff_Copies_init := fun_mk (st := s_Copies_init) lf_Copies_init cf_Copies_init kf_Copies_init
  have bf_Copies_init := Ff_Copies_init.binds (ps := ["self", "store"]) fun _ _ _ _ _ _ us hl => match us, hl with | [_, _], _ => rfl
  have Kf_Copies_init : Mk K cCopies a_Copies_init := ⟨mkCopies, af_Copies_init, if_Copies_init, kcCopies⟩
  have Ff_Copies_copy_for := fun_mk (st := s_Copies_copy_for) lf_Copies_copy_for cf_Copies_copy_for kf_Copies_copy_for
  have bf_Copies_copy_for := Ff_Copies_copy_for.binds (ps := ["self", "value"]) fun _ _ _ _ _ _ us hl => match us, hl with | [_, _], _ => rfl
  have Mf_Copies_copy_for : Meth K cCopies "copy_for" a_Copies_copy_for := ⟨af_Copies_copy_for, if_Copies_copy_for, kf_Copies_copy_for⟩
  have Ff_Form_init := fun_mk (st := s_Form_init) lf_Form_init cf_Form_init kf_Form_init
  have bf_Form_init := Ff_Form_init.binds (ps := ["self", "store", "most"]) fun _ _ _ _ _ _ us hl => match us, hl with | [_, _, _], _ => rfl
  have Kf_Form_init : Mk K cForm a_Form_init := ⟨mkForm, af_Form_init, if_Form_init, kcForm⟩
  have Ff_Form_add := fun_mk (st := s_Form_add) lf_Form_add cf_Form_add kf_Form_add
  have bf_Form_add := Ff_Form_add.binds (ps := ["self", "text"]) fun _ _ _ _ _ _ us hl => match us, hl with | [_, _], _ => rfl
  have Mf_Form_add : Meth K cForm "add" a_Form_add := ⟨af_Form_add, if_Form_add, kf_Form_add⟩
  have Ff_Form_is_enough := fun_mk (st := s_Form_is_enough) lf_Form_is_enough cf_Form_is_enough kf_Form_is_enough
  have bf_Form_is_enough := Ff_Form_is_enough.binds (ps := ["self"]) fun _ _ _ _ _ _ us hl => match us, hl with | [_], _ => rfl
  have Mf_Form_is_enough : Meth K cForm "is_enough" a_Form_is_enough := ⟨af_Form_is_enough, if_Form_is_enough, kf_Form_is_enough⟩
  have Ff_Store_init := fun_mk (st := s_Store_init) lf_Store_init cf_Store_init kf_Store_init
  have bf_Store_init := Ff_Store_init.binds (ps := ["self", "lines"]) fun _ _ _ _ _ _ us hl => match us, hl with | [_, _], _ => rfl
  have Kf_Store_init : Mk K cStore a_Store_init := ⟨mkStore, af_Store_init, if_Store_init, kcStore⟩
  have Ff_Store_make := fun_mk (st := s_Store_make) lf_Store_make cf_Store_make kf_Store_make
  have bf_Store_make := Ff_Store_make.binds (ps := ["self", "thing"]) fun _ _ _ _ _ _ us hl => match us, hl with | [_, _], _ => rfl
  have Mf_Store_make : Meth K cStore "make" a_Store_make := ⟨af_Store_make, if_Store_make, kf_Store_make⟩
  have Ff_Store_at := fun_mk (st := s_Store_at) lf_Store_at cf_Store_at kf_Store_at
  have bf_Store_at := Ff_Store_at.binds (ps := ["self", "ref"]) fun _ _ _ _ _ _ us hl => match us, hl with | [_, _], _ => rfl
  have Mf_Store_at : Meth K cStore "at" a_Store_at := ⟨af_Store_at, if_Store_at, kf_Store_at⟩
  have ciPERCENT : ∃ t, mg "PERCENT" = some (.int 37 t) := ⟨_, PySem.W.mg_of X G qPERCENT⟩
  have ciMOST_HELD : ∃ t, mg "MOST_HELD" = some (.int 1000 t) := ⟨_, PySem.W.mg_of X G qMOST_HELD⟩
  have ciDOUBTFUL_BITS : ∃ t, mg "DOUBTFUL_BITS" = some (.int 997 t) := ⟨_, PySem.W.mg_of X G qDOUBTFUL_BITS⟩
  have ciDIGITS : ∃ t, mg "DIGITS" = some (.str "0123456789abcdefghijklmnopqrstuvwxyz" t) := ⟨_, PySem.W.mg_of X G qDIGITS⟩
  have ciCAPITALS : ∃ t, mg "CAPITALS" = some (.str "ABCDEFGHIJKLMNOPQRSTUVWXYZ" t) := ⟨_, PySem.W.mg_of X G qCAPITALS⟩
  have ciLEAST_BASE : ∃ t, mg "LEAST_BASE" = some (.int 2 t) := ⟨_, PySem.W.mg_of X G qLEAST_BASE⟩
  have ciMOST_BASE : ∃ t, mg "MOST_BASE" = some (.int 36 t) := ⟨_, PySem.W.mg_of X G qMOST_BASE⟩
  have ciMOST_AROUND : ∃ t, mg "MOST_AROUND" = some (.int 10 t) := ⟨_, PySem.W.mg_of X G qMOST_AROUND⟩
  have ciNEWLINE : ∃ t, mg "NEWLINE" = some (.int 10 t) := ⟨_, PySem.W.mg_of X G qNEWLINE⟩
  have ciFIRST : ∃ t, mg "FIRST" = some (.int 32 t) := ⟨_, PySem.W.mg_of X G qFIRST⟩
  have ciLAST : ∃ t, mg "LAST" = some (.int 126 t) := ⟨_, PySem.W.mg_of X G qLAST⟩
  have Z : Mth mg := ⟨PySem.W.mg_of X G umisqrt, PySem.W.mg_of X G umgcd⟩
  obtain ⟨L, eL0, eL1, eL2, eL3, eL4, eL5⟩ : ∃ L : Lib l.prog K mg ⟨cRef, cParts, cTable, cInstance, cKin, cCopies, cForm, cStore, cLivequillError, cScriptError, cWaiting⟩, L.without_sign.f = a_without_sign ∧ L.power.f = a_power ∧ L.divisor.f = a_divisor ∧ L.root.f = a_root ∧ L.in_base.f = a_in_base ∧ L.from_base.f = a_from_base := ⟨⟨PySem.W.mg_none_of X G zrange, PySem.W.mg_none_of X G zlen, PySem.W.mg_none_of X G zint, PySem.W.mg_none_of X G zstr, PySem.W.mg_none_of X G zbool, PySem.W.mg_none_of X G zisinstance, PySem.W.mg_none_of X G zlist, PySem.W.mg_none_of X G zabs, PySem.W.mg_none_of X G zmin, PySem.W.mg_none_of X G zmax, PySem.W.mg_none_of X G zenumerate, PySem.W.mg_none_of X G zzip, PySem.W.mg_none_of X G zall, ⟨KlRef, PySem.W.mg_of X G uRef, tyRef⟩, nRef_number, ⟨KlParts, PySem.W.mg_of X G uParts, tyParts⟩, nParts_held, ⟨KlTable, PySem.W.mg_of X G uTable, tyTable⟩, nTable__entries, ⟨KlInstance, PySem.W.mg_of X G uInstance, tyInstance⟩, nInstance_owner, nInstance_named, ⟨KlKin, PySem.W.mg_of X G uKin, tyKin⟩, nKin_name, nKin_parent, nKin_methods, ⟨KlCopies, PySem.W.mg_of X G uCopies, tyCopies⟩, nCopies_store, nCopies_found, nCopies_by_number, ⟨KlForm, PySem.W.mg_of X G uForm, tyForm⟩, nForm_store, nForm_most, nForm_pieces, nForm_size, nForm_around, ⟨KlStore, PySem.W.mg_of X G uStore, tyStore⟩, nStore_things, nStore_output, nStore_lines, nStore_taken, ⟨PySem.W.mg_of X G uLivequillError⟩, ⟨_, _, TScriptError, fun _ _ => ok_SE liScriptError ciScriptError TScriptError UScriptError, bScriptError, PySem.W.mg_of X G uScriptError, ecScriptError⟩, klScriptErrorLivequillError, klScriptErrorWaiting, ⟨PySem.W.mg_of X G uWaiting⟩, k_Ref_Parts, k_Ref_Table, k_Ref_Instance, k_Ref_Kin, k_Ref_bool, k_Ref_int, k_Ref_str, k_Parts_Ref, k_Parts_Table, k_Parts_Instance, k_Parts_Kin, k_Parts_bool, k_Parts_int, k_Parts_str, k_Table_Ref, k_Table_Parts, k_Table_Instance, k_Table_Kin, k_Table_bool, k_Table_int, k_Table_str, k_Instance_Ref, k_Instance_Parts, k_Instance_Table, k_Instance_Kin, k_Instance_bool, k_Instance_int, k_Instance_str, k_Kin_Ref, k_Kin_Parts, k_Kin_Table, k_Kin_Instance, k_Kin_bool, k_Kin_int, k_Kin_str, k_Copies_Ref, k_Copies_Parts, k_Copies_Table, k_Copies_Instance, k_Copies_Kin, k_Copies_bool, k_Copies_int, k_Copies_str, k_Form_Ref, k_Form_Parts, k_Form_Table, k_Form_Instance, k_Form_Kin, k_Form_bool, k_Form_int, k_Form_str, k_Store_Ref, k_Store_Parts, k_Store_Table, k_Store_Instance, k_Store_Kin, k_Store_bool, k_Store_int, k_Store_str, k_NoneType_Ref, k_NoneType_Parts, k_NoneType_Table, k_NoneType_Instance, k_NoneType_Kin, k_bool_Ref, k_bool_Parts, k_bool_Table, k_bool_Instance, k_bool_Kin, k_int_Ref, k_int_Parts, k_int_Table, k_int_Instance, k_int_Kin, k_str_Ref, k_str_Parts, k_str_Table, k_str_Instance, k_str_Kin, k_tuple_Ref, k_tuple_Parts, k_tuple_Table, k_tuple_Instance, k_tuple_Kin, k_list_Ref, k_list_Parts, k_list_Table, k_list_Instance, k_list_Kin, nf_Ref_NoneType, su_Ref_NoneType, nf_Ref_int, su_Ref_int, nf_Ref_str, su_Ref_str, nf_Ref_tuple, su_Ref_tuple, nf_Ref_list, su_Ref_list, nf_Ref_Parts, nf_Ref_Table, nf_Ref_Instance, nf_Ref_Kin, nf_Ref_Copies, nf_Ref_Form, nf_Ref_Store, ciPERCENT, ciMOST_HELD, ciDOUBTFUL_BITS, ciDIGITS, ciCAPITALS, ciLEAST_BASE, ciMOST_BASE, ciMOST_AROUND, ciNEWLINE, ciFIRST, ciLAST, ⟨_, _, Ff_tagged, bf_tagged, glf_tagged⟩, ⟨_, _, Ff_kind_of, bf_kind_of, glf_kind_of⟩, ⟨_, _, Ff_kind_of_thing, bf_kind_of_thing, glf_kind_of_thing⟩, ⟨_, _, Ff_is_true, bf_is_true, glf_is_true⟩, ⟨_, _, Ff_equal, bf_equal, glf_equal⟩, ⟨_, _, Ff_is_key, bf_is_key, glf_is_key⟩, ⟨_, _, Ff_check_size, bf_check_size, glf_check_size⟩, ⟨_, _, Ff_is_bounded, bf_is_bounded, glf_is_bounded⟩, ⟨_, _, Ff_checked_integer, bf_checked_integer, glf_checked_integer⟩, ⟨_, _, Ff_check_count, bf_check_count, glf_check_count⟩, ⟨_, _, Ff_check_arguments, bf_check_arguments, glf_check_arguments⟩, ⟨_, _, Ff_check_kind, bf_check_kind, glf_check_kind⟩, ⟨_, _, Ff_check_alike, bf_check_alike, glf_check_alike⟩, ⟨_, _, Ff_copy_of, bf_copy_of, glf_copy_of⟩, ⟨_, _, Ff_is_holder, bf_is_holder, glf_is_holder⟩, ⟨_, _, Ff_fill, bf_fill, glf_fill⟩, ⟨_, _, Ff_same, bf_same, glf_same⟩, ⟨_, _, Ff_pairs_within, bf_pairs_within, glf_pairs_within⟩, ⟨_, _, Ff_raised, bf_raised, glf_raised⟩, ⟨_, _, Ff_small_power, bf_small_power, glf_small_power⟩, ⟨_, _, Ff_root_of, bf_root_of, glf_root_of⟩, ⟨_, _, Ff_check_base, bf_check_base, glf_check_base⟩, ⟨_, _, Ff_written_in, bf_written_in, glf_written_in⟩, ⟨_, _, Ff_read_in, bf_read_in, glf_read_in⟩, ⟨_, _, Ff_place_of_digit, bf_place_of_digit, glf_place_of_digit⟩, ⟨_, _, Ff_make_list, bf_make_list, glf_make_list⟩, ⟨_, _, Ff_quoted, bf_quoted, glf_quoted⟩, ⟨_, _, Ff_write_value, bf_write_value, glf_write_value⟩, ⟨_, _, Ff_text_of, bf_text_of, glf_text_of⟩, ⟨_, _, Ff_write, bf_write, glf_write⟩, ⟨_, _, Ff_write_around, bf_write_around, glf_write_around⟩, ⟨_, _, Ff_write_held, bf_write_held, glf_write_held⟩, ⟨_, _, Ff_held_by, bf_held_by, glf_held_by⟩, ⟨_, _, Ff_plain_form, bf_plain_form, glf_plain_form⟩, ⟨_, _, Ff_joined, bf_joined, glf_joined⟩, ⟨_, _, Ff_call_builtin, bf_call_builtin, glf_call_builtin⟩, ⟨_, _, Ff_print_line, bf_print_line, glf_print_line⟩, ⟨_, _, Ff_integers_between, bf_integers_between, glf_integers_between⟩, ⟨_, _, Ff_least, bf_least, glf_least⟩, ⟨_, _, Ff_greatest, bf_greatest, glf_greatest⟩, ⟨_, _, Ff_choices, bf_choices, glf_choices⟩, ⟨_, _, Ff_read_line, bf_read_line, glf_read_line⟩, ⟨_, _, Ff_as_text, bf_as_text, glf_as_text⟩, ⟨_, _, Ff_as_integer, bf_as_integer, glf_as_integer⟩, ⟨_, _, Ff_length, bf_length, glf_length⟩, ⟨_, _, Ff_kind, bf_kind, glf_kind⟩, ⟨_, _, Ff_without_sign, bf_without_sign, glf_without_sign⟩, ⟨_, _, Ff_power, bf_power, glf_power⟩, ⟨_, _, Ff_divisor, bf_divisor, glf_divisor⟩, ⟨_, _, Ff_root, bf_root, glf_root⟩, ⟨_, _, Ff_in_base, bf_in_base, glf_in_base⟩, ⟨_, _, Ff_from_base, bf_from_base, glf_from_base⟩, ⟨_, _, Ff_character, bf_character, glf_character⟩, ⟨_, _, Ff_assert_true, bf_assert_true, glf_assert_true⟩, ⟨_, _, Ff_copy, bf_copy, glf_copy⟩, ⟨_, _, Ff_equals, bf_equals, glf_equals⟩, ⟨_, _, Ff_law_cell, bf_law_cell, glf_law_cell⟩, ⟨_, _, Ff_law_is_integer, bf_law_is_integer, glf_law_is_integer⟩, ⟨_, _, Ff_law_begin, bf_law_begin, glf_law_begin⟩, ⟨_, _, Ff_law_draw, bf_law_draw, glf_law_draw⟩, ⟨_, _, Ff_law_pick, bf_law_pick, glf_law_pick⟩, ⟨_, _, Ff_law_greatest, bf_law_greatest, glf_law_greatest⟩, ⟨_, _, Ff_law_number, bf_law_number, glf_law_number⟩, ⟨_, _, Ff_law_call, bf_law_call, glf_law_call⟩, ⟨_, _, Ff_law_root, bf_law_root, glf_law_root⟩, ⟨_, _, Ff_law_divisor, bf_law_divisor, glf_law_divisor⟩, ⟨_, _, Ff_law_power, bf_law_power, glf_law_power⟩, ⟨_, _, Ff_law_digits, bf_law_digits, glf_law_digits⟩, ⟨_, _, Ff_law_base, bf_law_base, glf_law_base⟩, ⟨_, _, Ff_law_no_number, bf_law_no_number, glf_law_no_number⟩, ⟨_, _, Ff_Ref_init, bf_Ref_init, Kf_Ref_init⟩, ⟨_, _, Ff_Ref_eq, bf_Ref_eq, ⟨af_Ref_eq, if_Ref_eq⟩⟩, ⟨_, _, Ff_Parts_init, bf_Parts_init, Kf_Parts_init⟩, ⟨_, _, Ff_Table_init, bf_Table_init, Kf_Table_init⟩, ⟨_, _, Ff_Table_has, bf_Table_has, Mf_Table_has⟩, ⟨_, _, Ff_Table_value_of, bf_Table_value_of, Mf_Table_value_of⟩, ⟨_, _, Ff_Table_put, bf_Table_put, Mf_Table_put⟩, ⟨_, _, Ff_Table_pairs, bf_Table_pairs, Mf_Table_pairs⟩, ⟨_, _, _, Ff_Table_many, bf_Table_many, Pf_Table_many⟩, ⟨_, _, Ff_Instance_init, bf_Instance_init, Kf_Instance_init⟩, ⟨_, _, Ff_Kin_init, bf_Kin_init, Kf_Kin_init⟩, ⟨_, _, Ff_Copies_init, bf_Copies_init, Kf_Copies_init⟩, ⟨_, _, Ff_Copies_copy_for, bf_Copies_copy_for, Mf_Copies_copy_for⟩, ⟨_, _, Ff_Form_init, bf_Form_init, Kf_Form_init⟩, ⟨_, _, Ff_Form_add, bf_Form_add, Mf_Form_add⟩, ⟨_, _, Ff_Form_is_enough, bf_Form_is_enough, Mf_Form_is_enough⟩, ⟨_, _, Ff_Store_init, bf_Store_init, Kf_Store_init⟩, ⟨_, _, Ff_Store_make, bf_Store_make, Mf_Store_make⟩, ⟨_, _, Ff_Store_at, bf_Store_at, Mf_Store_at⟩⟩, rfl, rfl, rfl, rfl, rfl, rfl⟩
  have D : Fd w L := ⟨aFR, _, _, ⟨ldFR, kdFR, lowFR⟩, PySem.W.mg_of X G udFR, fun c => match c with
    | .abs _ => miss0
    | .pow _ _ => miss1
    | .gcd _ _ => miss2
    | .sqrt _ => miss3
    | .base _ _ => miss4
    | .parse _ _ => miss5, aFU, PySem.W.mg_of X G udFU, fun c => match c with
    | .abs _ => ⟨tA0, qA0, ⟨_, _, _, ldFU, kdFU, nd0, rfl⟩, fun H => by show SqT K H tA0 [.ref L.without_sign.f, .ref qA0]; rw [eL0]; exact .inr ⟨_, _, _, lt0, rfl, rfl, st0, vt0⟩, fun H => .inr ⟨_, _, _, lq0, rfl, rfl, sq0, vq0⟩⟩
    | .pow _ _ => ⟨tA1, qA1, ⟨_, _, _, ldFU, kdFU, nd1, rfl⟩, fun H => by show SqT K H tA1 [.ref L.power.f, .ref qA1]; rw [eL1]; exact .inr ⟨_, _, _, lt1, rfl, rfl, st1, vt1⟩, fun H => .inr ⟨_, _, _, lq1, rfl, rfl, sq1, vq1⟩⟩
    | .gcd _ _ => ⟨tA2, qA2, ⟨_, _, _, ldFU, kdFU, nd2, rfl⟩, fun H => by show SqT K H tA2 [.ref L.divisor.f, .ref qA2]; rw [eL2]; exact .inr ⟨_, _, _, lt2, rfl, rfl, st2, vt2⟩, fun H => .inr ⟨_, _, _, lq2, rfl, rfl, sq2, vq2⟩⟩
    | .sqrt _ => ⟨tA3, qA3, ⟨_, _, _, ldFU, kdFU, nd3, rfl⟩, fun H => by show SqT K H tA3 [.ref L.root.f, .ref qA3]; rw [eL3]; exact .inr ⟨_, _, _, lt3, rfl, rfl, st3, vt3⟩, fun H => .inr ⟨_, _, _, lq3, rfl, rfl, sq3, vq3⟩⟩
    | .base _ _ => ⟨tA4, qA4, ⟨_, _, _, ldFU, kdFU, nd4, rfl⟩, fun H => by show SqT K H tA4 [.ref L.in_base.f, .ref qA4]; rw [eL4]; exact .inr ⟨_, _, _, lt4, rfl, rfl, st4, vt4⟩, fun H => .inr ⟨_, _, _, lq4, rfl, rfl, sq4, vq4⟩⟩
    | .parse _ _ => ⟨tA5, qA5, ⟨_, _, _, ldFU, kdFU, nd5, rfl⟩, fun H => by show SqT K H tA5 [.ref L.from_base.f, .ref qA5]; rw [eL5]; exact .inr ⟨_, _, _, lt5, rfl, rfl, st5, vt5⟩, fun H => .inr ⟨_, _, _, lq5, rfl, rfl, sq5, vq5⟩⟩⟩
  exact ⟨PySem.W.fnOf "law" "law" (defArgs s_law) (defBody s_law) (defScope s_law) .none kVlaw dclaw pmlaw anlaw cdlaw ctlaw, fun s v => .of_eq rfl, fun base _ _ => ok_law Flaw L Z D⟩
end My
namespace PySem.W.Fast
def tw90343872475197607 : Type := PySem.Params
theorem te90343872475197607 : PySem.Params = tw90343872475197607 := rfl
end PySem.W.Fast
open PySem PySem.W PyProof.Rows
set_option maxRecDepth 100000 in
set_option maxHeartbeats 0 in
theorem PySem.Challenge.cw_livequill_k23_numbers_and_bases_holds : PySem.Challenge.rw_livequill_k23_numbers_and_bases.Holds := by
  w_on; o_law; k_head; (case hw => w_witness2)
  k_fill
  refine L2.walk_of (l := PySem.Challenge.rw_livequill_k23_numbers_and_bases) (n := 63) (k := 12) (x := "script") (CX := fun _ => L2.CX0) (sp := fun w => My.spLaw _) rfl (by decide) rfl ⟨rfl, by decide, by decide⟩ (fun w h Y => PySem.W.kIn_of Y) ?F (fun _ _ a ns hl _ hS => ⟨a, ns, rfl, hS, hl, fun _ => rfl⟩) (fun _ _ _ _ _ h => h)
  case F =>
    intro w mg fa h KX G hmg
    refine' My.all_mk KX G hmg ?uRef ?mkRef ?kcRef ?pgRef ?hdRef ?poRef ?saRef ?nRef_number ?hnTy ?htTy ?haRef ?hmRef ?uParts ?mkParts ?kcParts ?pgParts ?hdParts ?poParts ?saParts ?nParts_held ?haParts ?hmParts ?uTable ?mkTable ?kcTable ?pgTable ?hdTable ?poTable ?saTable ?nTable__entries ?haTable ?hmTable ?uInstance ?mkInstance ?kcInstance ?pgInstance ?hdInstance ?poInstance ?saInstance ?nInstance_owner ?nInstance_named ?haInstance ?hmInstance ?uKin ?mkKin ?kcKin ?pgKin ?hdKin ?poKin ?saKin ?nKin_name ?nKin_parent ?nKin_methods ?haKin ?hmKin ?uCopies ?mkCopies ?kcCopies ?pgCopies ?hdCopies ?poCopies ?saCopies ?nCopies_store ?nCopies_found ?nCopies_by_number ?haCopies ?hmCopies ?uForm ?mkForm ?kcForm ?pgForm ?hdForm ?poForm ?saForm ?nForm_store ?nForm_most ?nForm_pieces ?nForm_size ?nForm_around ?haForm ?hmForm ?uStore ?mkStore ?kcStore ?pgStore ?hdStore ?poStore ?saStore ?nStore_things ?nStore_output ?nStore_lines ?nStore_taken ?haStore ?hmStore ?uLivequillError ?uWaiting ?uScriptError ?xScriptError ?saScriptError ?exScriptError ?tpScriptError ?kpScriptError ?n1ScriptError ?n2ScriptError ?iScriptError ?tiScriptError ?gaScriptError ?ggScriptError ?hdScriptError ?ssScriptError ?liScriptError ?ciScriptError ?coScriptError ?cvScriptError ?fiScriptError ?ceScriptError ?toSup ?suSup ?opSup ?mrScriptError ?ksScriptError ?vaScriptError ?haScriptError ?hmScriptError ?klScriptErrorLivequillError ?klScriptErrorWaiting ?af_tagged ?lf_tagged ?cf_tagged ?kf_tagged ?af_kind_of ?lf_kind_of ?cf_kind_of ?kf_kind_of ?af_kind_of_thing ?lf_kind_of_thing ?cf_kind_of_thing ?kf_kind_of_thing ?af_is_true ?lf_is_true ?cf_is_true ?kf_is_true ?af_equal ?lf_equal ?cf_equal ?kf_equal ?af_is_key ?lf_is_key ?cf_is_key ?kf_is_key ?af_check_size ?lf_check_size ?cf_check_size ?kf_check_size ?af_is_bounded ?lf_is_bounded ?cf_is_bounded ?kf_is_bounded ?af_checked_integer ?lf_checked_integer ?cf_checked_integer ?kf_checked_integer ?af_check_count ?lf_check_count ?cf_check_count ?kf_check_count ?af_check_arguments ?lf_check_arguments ?cf_check_arguments ?kf_check_arguments ?af_check_kind ?lf_check_kind ?cf_check_kind ?kf_check_kind ?af_check_alike ?lf_check_alike ?cf_check_alike ?kf_check_alike ?af_copy_of ?lf_copy_of ?cf_copy_of ?kf_copy_of ?af_is_holder ?lf_is_holder ?cf_is_holder ?kf_is_holder ?af_fill ?lf_fill ?cf_fill ?kf_fill ?af_same ?lf_same ?cf_same ?kf_same ?af_pairs_within ?lf_pairs_within ?cf_pairs_within ?kf_pairs_within ?af_raised ?lf_raised ?cf_raised ?kf_raised ?af_small_power ?lf_small_power ?cf_small_power ?kf_small_power ?af_root_of ?lf_root_of ?cf_root_of ?kf_root_of ?af_check_base ?lf_check_base ?cf_check_base ?kf_check_base ?af_written_in ?lf_written_in ?cf_written_in ?kf_written_in ?af_read_in ?lf_read_in ?cf_read_in ?kf_read_in ?af_place_of_digit ?lf_place_of_digit ?cf_place_of_digit ?kf_place_of_digit ?af_make_list ?lf_make_list ?cf_make_list ?kf_make_list ?af_quoted ?lf_quoted ?cf_quoted ?kf_quoted ?af_write_value ?lf_write_value ?cf_write_value ?kf_write_value ?af_text_of ?lf_text_of ?cf_text_of ?kf_text_of ?af_write ?lf_write ?cf_write ?kf_write ?af_write_around ?lf_write_around ?cf_write_around ?kf_write_around ?af_write_held ?lf_write_held ?cf_write_held ?kf_write_held ?af_held_by ?lf_held_by ?cf_held_by ?kf_held_by ?af_plain_form ?lf_plain_form ?cf_plain_form ?kf_plain_form ?af_joined ?lf_joined ?cf_joined ?kf_joined ?af_call_builtin ?lf_call_builtin ?cf_call_builtin ?kf_call_builtin ?af_print_line ?lf_print_line ?cf_print_line ?kf_print_line ?af_integers_between ?lf_integers_between ?cf_integers_between ?kf_integers_between ?af_least ?lf_least ?cf_least ?kf_least ?af_greatest ?lf_greatest ?cf_greatest ?kf_greatest ?af_choices ?lf_choices ?cf_choices ?kf_choices ?af_read_line ?lf_read_line ?cf_read_line ?kf_read_line ?af_as_text ?lf_as_text ?cf_as_text ?kf_as_text ?af_as_integer ?lf_as_integer ?cf_as_integer ?kf_as_integer ?af_length ?lf_length ?cf_length ?kf_length ?af_kind ?lf_kind ?cf_kind ?kf_kind ?af_without_sign ?lf_without_sign ?cf_without_sign ?kf_without_sign ?af_power ?lf_power ?cf_power ?kf_power ?af_divisor ?lf_divisor ?cf_divisor ?kf_divisor ?af_root ?lf_root ?cf_root ?kf_root ?af_in_base ?lf_in_base ?cf_in_base ?kf_in_base ?af_from_base ?lf_from_base ?cf_from_base ?kf_from_base ?af_character ?lf_character ?cf_character ?kf_character ?af_assert_true ?lf_assert_true ?cf_assert_true ?kf_assert_true ?af_copy ?lf_copy ?cf_copy ?kf_copy ?af_equals ?lf_equals ?cf_equals ?kf_equals ?af_law_cell ?lf_law_cell ?cf_law_cell ?kf_law_cell ?af_law_is_integer ?lf_law_is_integer ?cf_law_is_integer ?kf_law_is_integer ?af_law_begin ?lf_law_begin ?cf_law_begin ?kf_law_begin ?af_law_draw ?lf_law_draw ?cf_law_draw ?kf_law_draw ?af_law_pick ?lf_law_pick ?cf_law_pick ?kf_law_pick ?af_law_greatest ?lf_law_greatest ?cf_law_greatest ?kf_law_greatest ?af_law_number ?lf_law_number ?cf_law_number ?kf_law_number ?af_law_call ?lf_law_call ?cf_law_call ?kf_law_call ?af_law_root ?lf_law_root ?cf_law_root ?kf_law_root ?af_law_divisor ?lf_law_divisor ?cf_law_divisor ?kf_law_divisor ?af_law_power ?lf_law_power ?cf_law_power ?kf_law_power ?af_law_digits ?lf_law_digits ?cf_law_digits ?kf_law_digits ?af_law_base ?lf_law_base ?cf_law_base ?kf_law_base ?af_law_no_number ?lf_law_no_number ?cf_law_no_number ?kf_law_no_number ?alaw ?llaw ?claw ?klaw ?af_Ref_init ?if_Ref_init ?lf_Ref_init ?cf_Ref_init ?kf_Ref_init ?af_Ref_eq ?if_Ref_eq ?lf_Ref_eq ?cf_Ref_eq ?kf_Ref_eq ?af_Parts_init ?if_Parts_init ?lf_Parts_init ?cf_Parts_init ?kf_Parts_init ?af_Table_init ?if_Table_init ?lf_Table_init ?cf_Table_init ?kf_Table_init ?af_Table_has ?if_Table_has ?lf_Table_has ?cf_Table_has ?kf_Table_has ?af_Table_value_of ?if_Table_value_of ?lf_Table_value_of ?cf_Table_value_of ?kf_Table_value_of ?af_Table_put ?if_Table_put ?lf_Table_put ?cf_Table_put ?kf_Table_put ?af_Table_pairs ?if_Table_pairs ?lf_Table_pairs ?cf_Table_pairs ?kf_Table_pairs ?af_Table_many ?pgtf_Table_many ?ptkf_Table_many ?prcf_Table_many ?lf_Table_many ?cf_Table_many ?kf_Table_many ?af_Instance_init ?if_Instance_init ?lf_Instance_init ?cf_Instance_init ?kf_Instance_init ?af_Kin_init ?if_Kin_init ?lf_Kin_init ?cf_Kin_init ?kf_Kin_init ?af_Copies_init ?if_Copies_init ?lf_Copies_init ?cf_Copies_init ?kf_Copies_init ?af_Copies_copy_for ?if_Copies_copy_for ?lf_Copies_copy_for ?cf_Copies_copy_for ?kf_Copies_copy_for ?af_Form_init ?if_Form_init ?lf_Form_init ?cf_Form_init ?kf_Form_init ?af_Form_add ?if_Form_add ?lf_Form_add ?cf_Form_add ?kf_Form_add ?af_Form_is_enough ?if_Form_is_enough ?lf_Form_is_enough ?cf_Form_is_enough ?kf_Form_is_enough ?af_Store_init ?if_Store_init ?lf_Store_init ?cf_Store_init ?kf_Store_init ?af_Store_make ?if_Store_make ?lf_Store_make ?cf_Store_make ?kf_Store_make ?af_Store_at ?if_Store_at ?lf_Store_at ?cf_Store_at ?kf_Store_at ?qPERCENT ?qMOST_HELD ?qDOUBTFUL_BITS ?qDIGITS ?qCAPITALS ?qLEAST_BASE ?qMOST_BASE ?qMOST_AROUND ?qNEWLINE ?qFIRST ?qLAST ?k_Ref_Parts ?k_Ref_Table ?k_Ref_Instance ?k_Ref_Kin ?k_Ref_bool ?k_Ref_int ?k_Ref_str ?k_Parts_Ref ?k_Parts_Table ?k_Parts_Instance ?k_Parts_Kin ?k_Parts_bool ?k_Parts_int ?k_Parts_str ?k_Table_Ref ?k_Table_Parts ?k_Table_Instance ?k_Table_Kin ?k_Table_bool ?k_Table_int ?k_Table_str ?k_Instance_Ref ?k_Instance_Parts ?k_Instance_Table ?k_Instance_Kin ?k_Instance_bool ?k_Instance_int ?k_Instance_str ?k_Kin_Ref ?k_Kin_Parts ?k_Kin_Table ?k_Kin_Instance ?k_Kin_bool ?k_Kin_int ?k_Kin_str ?k_Copies_Ref ?k_Copies_Parts ?k_Copies_Table ?k_Copies_Instance ?k_Copies_Kin ?k_Copies_bool ?k_Copies_int ?k_Copies_str ?k_Form_Ref ?k_Form_Parts ?k_Form_Table ?k_Form_Instance ?k_Form_Kin ?k_Form_bool ?k_Form_int ?k_Form_str ?k_Store_Ref ?k_Store_Parts ?k_Store_Table ?k_Store_Instance ?k_Store_Kin ?k_Store_bool ?k_Store_int ?k_Store_str ?k_NoneType_Ref ?k_NoneType_Parts ?k_NoneType_Table ?k_NoneType_Instance ?k_NoneType_Kin ?k_bool_Ref ?k_bool_Parts ?k_bool_Table ?k_bool_Instance ?k_bool_Kin ?k_int_Ref ?k_int_Parts ?k_int_Table ?k_int_Instance ?k_int_Kin ?k_str_Ref ?k_str_Parts ?k_str_Table ?k_str_Instance ?k_str_Kin ?k_tuple_Ref ?k_tuple_Parts ?k_tuple_Table ?k_tuple_Instance ?k_tuple_Kin ?k_list_Ref ?k_list_Parts ?k_list_Table ?k_list_Instance ?k_list_Kin ?nf_Ref_NoneType ?su_Ref_NoneType ?nf_Ref_int ?su_Ref_int ?nf_Ref_str ?su_Ref_str ?nf_Ref_tuple ?su_Ref_tuple ?nf_Ref_list ?su_Ref_list ?nf_Ref_Parts ?nf_Ref_Table ?nf_Ref_Instance ?nf_Ref_Kin ?nf_Ref_Copies ?nf_Ref_Form ?nf_Ref_Store ?zrange ?zlen ?zint ?zstr ?zbool ?zisinstance ?zlist ?zabs ?zmin ?zmax ?zenumerate ?zzip ?zall ?umisqrt ?umgcd ?udFR ?ldFR ?kdFR ?udFU ?ldFU ?kdFU ?lowFR ?miss0 ?nd0 ?lt0 ?vt0 ?st0 ?lq0 ?vq0 ?sq0 ?miss1 ?nd1 ?lt1 ?vt1 ?st1 ?lq1 ?vq1 ?sq1 ?miss2 ?nd2 ?lt2 ?vt2 ?st2 ?lq2 ?vq2 ?sq2 ?miss3 ?nd3 ?lt3 ?vt3 ?st3 ?lq3 ?vq3 ?sq3 ?miss4 ?nd4 ?lt4 ?vt4 ?st4 ?lq4 ?vq4 ?sq4 ?miss5 ?nd5 ?lt5 ?vt5 ?st5 ?lq5 ?vq5 ?sq5
    (case uRef => k_is)
    (case mkRef => k_is)
    (case kcRef => k_is)
    (case pgRef => k_is)
    (case hdRef => k_is)
    (case poRef => k_is)
    (case saRef => k_is)
    (case nRef_number => k_is)
    (case hnTy => k_is)
    (case htTy => k_is)
    (case haRef => k_is)
    (case hmRef => k_is)
    (case uParts => k_is)
    (case mkParts => k_is)
    (case kcParts => k_is)
    (case pgParts => k_is)
    (case hdParts => k_is)
    (case poParts => k_is)
    (case saParts => k_is)
    (case nParts_held => k_is)
    (case haParts => k_is)
    (case hmParts => k_is)
    (case uTable => k_is)
    (case mkTable => k_is)
    (case kcTable => k_is)
    (case pgTable => k_is)
    (case hdTable => k_is)
    (case poTable => k_is)
    (case saTable => k_is)
    (case nTable__entries => k_is)
    (case haTable => k_is)
    (case hmTable => k_is)
    (case uInstance => k_is)
    (case mkInstance => k_is)
    (case kcInstance => k_is)
    (case pgInstance => k_is)
    (case hdInstance => k_is)
    (case poInstance => k_is)
    (case saInstance => k_is)
    (case nInstance_owner => k_is)
    (case nInstance_named => k_is)
    (case haInstance => k_is)
    (case hmInstance => k_is)
    (case uKin => k_is)
    (case mkKin => k_is)
    (case kcKin => k_is)
    (case pgKin => k_is)
    (case hdKin => k_is)
    (case poKin => k_is)
    (case saKin => k_is)
    (case nKin_name => k_is)
    (case nKin_parent => k_is)
    (case nKin_methods => k_is)
    (case haKin => k_is)
    (case hmKin => k_is)
    (case uCopies => k_is)
    (case mkCopies => k_is)
    (case kcCopies => k_is)
    (case pgCopies => k_is)
    (case hdCopies => k_is)
    (case poCopies => k_is)
    (case saCopies => k_is)
    (case nCopies_store => k_is)
    (case nCopies_found => k_is)
    (case nCopies_by_number => k_is)
    (case haCopies => k_is)
    (case hmCopies => k_is)
    (case uForm => k_is)
    (case mkForm => k_is)
    (case kcForm => k_is)
    (case pgForm => k_is)
    (case hdForm => k_is)
    (case poForm => k_is)
    (case saForm => k_is)
    (case nForm_store => k_is)
    (case nForm_most => k_is)
    (case nForm_pieces => k_is)
    (case nForm_size => k_is)
    (case nForm_around => k_is)
    (case haForm => k_is)
    (case hmForm => k_is)
    (case uStore => k_is)
    (case mkStore => k_is)
    (case kcStore => k_is)
    (case pgStore => k_is)
    (case hdStore => k_is)
    (case poStore => k_is)
    (case saStore => k_is)
    (case nStore_things => k_is)
    (case nStore_output => k_is)
    (case nStore_lines => k_is)
    (case nStore_taken => k_is)
    (case haStore => k_is)
    (case hmStore => k_is)
    (case uLivequillError => k_is)
    (case uWaiting => k_is)
    (case uScriptError => k_is)
    (case xScriptError => k_is)
    (case saScriptError => k_is)
    (case exScriptError => k_is)
    (case tpScriptError => k_is)
    (case kpScriptError => k_is)
    (case n1ScriptError => k_is)
    (case n2ScriptError => k_is)
    (case iScriptError => k_is)
    (case tiScriptError => k_is)
    (case gaScriptError => k_is)
    (case ggScriptError => k_is)
    (case hdScriptError => k_is)
    (case ssScriptError => first | rfl | k_is)
    (case liScriptError => k_is)
    (case ciScriptError => k_is)
    (case coScriptError => k_is)
    (case cvScriptError => rfl)
    (case fiScriptError => first | rfl | decide +kernel)
    (case ceScriptError => k_is)
    (case toSup => first | rfl | decide +kernel)
    (case suSup => k_is)
    (case opSup => k_is)
    (case mrScriptError => k_is)
    (case ksScriptError => ks_is)
    (case vaScriptError => k_is)
    (case haScriptError => k_is)
    (case hmScriptError => k_is)
    (case klScriptErrorLivequillError => kit_is)
    (case klScriptErrorWaiting => kit_is)
    (case af_tagged => k_is)
    (case lf_tagged => k_is)
    (case cf_tagged => k_is)
    (case kf_tagged => k_is)
    (case af_kind_of => k_is)
    (case lf_kind_of => k_is)
    (case cf_kind_of => k_is)
    (case kf_kind_of => k_is)
    (case af_kind_of_thing => k_is)
    (case lf_kind_of_thing => k_is)
    (case cf_kind_of_thing => k_is)
    (case kf_kind_of_thing => k_is)
    (case af_is_true => k_is)
    (case lf_is_true => k_is)
    (case cf_is_true => k_is)
    (case kf_is_true => k_is)
    (case af_equal => k_is)
    (case lf_equal => k_is)
    (case cf_equal => k_is)
    (case kf_equal => k_is)
    (case af_is_key => k_is)
    (case lf_is_key => k_is)
    (case cf_is_key => k_is)
    (case kf_is_key => k_is)
    (case af_check_size => k_is)
    (case lf_check_size => k_is)
    (case cf_check_size => k_is)
    (case kf_check_size => k_is)
    (case af_is_bounded => k_is)
    (case lf_is_bounded => k_is)
    (case cf_is_bounded => k_is)
    (case kf_is_bounded => k_is)
    (case af_checked_integer => k_is)
    (case lf_checked_integer => k_is)
    (case cf_checked_integer => k_is)
    (case kf_checked_integer => k_is)
    (case af_check_count => k_is)
    (case lf_check_count => k_is)
    (case cf_check_count => k_is)
    (case kf_check_count => k_is)
    (case af_check_arguments => k_is)
    (case lf_check_arguments => k_is)
    (case cf_check_arguments => k_is)
    (case kf_check_arguments => k_is)
    (case af_check_kind => k_is)
    (case lf_check_kind => k_is)
    (case cf_check_kind => k_is)
    (case kf_check_kind => k_is)
    (case af_check_alike => k_is)
    (case lf_check_alike => k_is)
    (case cf_check_alike => k_is)
    (case kf_check_alike => k_is)
    (case af_copy_of => k_is)
    (case lf_copy_of => k_is)
    (case cf_copy_of => k_is)
    (case kf_copy_of => k_is)
    (case af_is_holder => k_is)
    (case lf_is_holder => k_is)
    (case cf_is_holder => k_is)
    (case kf_is_holder => k_is)
    (case af_fill => k_is)
    (case lf_fill => k_is)
    (case cf_fill => k_is)
    (case kf_fill => k_is)
    (case af_same => k_is)
    (case lf_same => k_is)
    (case cf_same => k_is)
    (case kf_same => k_is)
    (case af_pairs_within => k_is)
    (case lf_pairs_within => k_is)
    (case cf_pairs_within => k_is)
    (case kf_pairs_within => k_is)
    (case af_raised => k_is)
    (case lf_raised => k_is)
    (case cf_raised => k_is)
    (case kf_raised => k_is)
    (case af_small_power => k_is)
    (case lf_small_power => k_is)
    (case cf_small_power => k_is)
    (case kf_small_power => k_is)
    (case af_root_of => k_is)
    (case lf_root_of => k_is)
    (case cf_root_of => k_is)
    (case kf_root_of => k_is)
    (case af_check_base => k_is)
    (case lf_check_base => k_is)
    (case cf_check_base => k_is)
    (case kf_check_base => k_is)
    (case af_written_in => k_is)
    (case lf_written_in => k_is)
    (case cf_written_in => k_is)
    (case kf_written_in => k_is)
    (case af_read_in => k_is)
    (case lf_read_in => k_is)
    (case cf_read_in => k_is)
    (case kf_read_in => k_is)
    (case af_place_of_digit => k_is)
    (case lf_place_of_digit => k_is)
    (case cf_place_of_digit => k_is)
    (case kf_place_of_digit => k_is)
    (case af_make_list => k_is)
    (case lf_make_list => k_is)
    (case cf_make_list => k_is)
    (case kf_make_list => k_is)
    (case af_quoted => k_is)
    (case lf_quoted => k_is)
    (case cf_quoted => k_is)
    (case kf_quoted => k_is)
    (case af_write_value => k_is)
    (case lf_write_value => k_is)
    (case cf_write_value => k_is)
    (case kf_write_value => k_is)
    (case af_text_of => k_is)
    (case lf_text_of => k_is)
    (case cf_text_of => k_is)
    (case kf_text_of => k_is)
    (case af_write => k_is)
    (case lf_write => k_is)
    (case cf_write => k_is)
    (case kf_write => k_is)
    (case af_write_around => k_is)
    (case lf_write_around => k_is)
    (case cf_write_around => k_is)
    (case kf_write_around => k_is)
    (case af_write_held => k_is)
    (case lf_write_held => k_is)
    (case cf_write_held => k_is)
    (case kf_write_held => k_is)
    (case af_held_by => k_is)
    (case lf_held_by => k_is)
    (case cf_held_by => k_is)
    (case kf_held_by => k_is)
    (case af_plain_form => k_is)
    (case lf_plain_form => k_is)
    (case cf_plain_form => k_is)
    (case kf_plain_form => k_is)
    (case af_joined => k_is)
    (case lf_joined => k_is)
    (case cf_joined => k_is)
    (case kf_joined => k_is)
    (case af_call_builtin => k_is)
    (case lf_call_builtin => k_is)
    (case cf_call_builtin => k_is)
    (case kf_call_builtin => k_is)
    (case af_print_line => k_is)
    (case lf_print_line => k_is)
    (case cf_print_line => k_is)
    (case kf_print_line => k_is)
    (case af_integers_between => k_is)
    (case lf_integers_between => k_is)
    (case cf_integers_between => k_is)
    (case kf_integers_between => k_is)
    (case af_least => k_is)
    (case lf_least => k_is)
    (case cf_least => k_is)
    (case kf_least => k_is)
    (case af_greatest => k_is)
    (case lf_greatest => k_is)
    (case cf_greatest => k_is)
    (case kf_greatest => k_is)
    (case af_choices => k_is)
    (case lf_choices => k_is)
    (case cf_choices => k_is)
    (case kf_choices => k_is)
    (case af_read_line => k_is)
    (case lf_read_line => k_is)
    (case cf_read_line => k_is)
    (case kf_read_line => k_is)
    (case af_as_text => k_is)
    (case lf_as_text => k_is)
    (case cf_as_text => k_is)
    (case kf_as_text => k_is)
    (case af_as_integer => k_is)
    (case lf_as_integer => k_is)
    (case cf_as_integer => k_is)
    (case kf_as_integer => k_is)
    (case af_length => k_is)
    (case lf_length => k_is)
    (case cf_length => k_is)
    (case kf_length => k_is)
    (case af_kind => k_is)
    (case lf_kind => k_is)
    (case cf_kind => k_is)
    (case kf_kind => k_is)
    (case af_without_sign => k_is)
    (case lf_without_sign => k_is)
    (case cf_without_sign => k_is)
    (case kf_without_sign => k_is)
    (case af_power => k_is)
    (case lf_power => k_is)
    (case cf_power => k_is)
    (case kf_power => k_is)
    (case af_divisor => k_is)
    (case lf_divisor => k_is)
    (case cf_divisor => k_is)
    (case kf_divisor => k_is)
    (case af_root => k_is)
    (case lf_root => k_is)
    (case cf_root => k_is)
    (case kf_root => k_is)
    (case af_in_base => k_is)
    (case lf_in_base => k_is)
    (case cf_in_base => k_is)
    (case kf_in_base => k_is)
    (case af_from_base => k_is)
    (case lf_from_base => k_is)
    (case cf_from_base => k_is)
    (case kf_from_base => k_is)
    (case af_character => k_is)
    (case lf_character => k_is)
    (case cf_character => k_is)
    (case kf_character => k_is)
    (case af_assert_true => k_is)
    (case lf_assert_true => k_is)
    (case cf_assert_true => k_is)
    (case kf_assert_true => k_is)
    (case af_copy => k_is)
    (case lf_copy => k_is)
    (case cf_copy => k_is)
    (case kf_copy => k_is)
    (case af_equals => k_is)
    (case lf_equals => k_is)
    (case cf_equals => k_is)
    (case kf_equals => k_is)
    (case af_law_cell => k_is)
    (case lf_law_cell => k_is)
    (case cf_law_cell => k_is)
    (case kf_law_cell => k_is)
    (case af_law_is_integer => k_is)
    (case lf_law_is_integer => k_is)
    (case cf_law_is_integer => k_is)
    (case kf_law_is_integer => k_is)
    (case af_law_begin => k_is)
    (case lf_law_begin => k_is)
    (case cf_law_begin => k_is)
    (case kf_law_begin => k_is)
    (case af_law_draw => k_is)
    (case lf_law_draw => k_is)
    (case cf_law_draw => k_is)
    (case kf_law_draw => k_is)
    (case af_law_pick => k_is)
    (case lf_law_pick => k_is)
    (case cf_law_pick => k_is)
    (case kf_law_pick => k_is)
    (case af_law_greatest => k_is)
    (case lf_law_greatest => k_is)
    (case cf_law_greatest => k_is)
    (case kf_law_greatest => k_is)
    (case af_law_number => k_is)
    (case lf_law_number => k_is)
    (case cf_law_number => k_is)
    (case kf_law_number => k_is)
    (case af_law_call => k_is)
    (case lf_law_call => k_is)
    (case cf_law_call => k_is)
    (case kf_law_call => k_is)
    (case af_law_root => k_is)
    (case lf_law_root => k_is)
    (case cf_law_root => k_is)
    (case kf_law_root => k_is)
    (case af_law_divisor => k_is)
    (case lf_law_divisor => k_is)
    (case cf_law_divisor => k_is)
    (case kf_law_divisor => k_is)
    (case af_law_power => k_is)
    (case lf_law_power => k_is)
    (case cf_law_power => k_is)
    (case kf_law_power => k_is)
    (case af_law_digits => k_is)
    (case lf_law_digits => k_is)
    (case cf_law_digits => k_is)
    (case kf_law_digits => k_is)
    (case af_law_base => k_is)
    (case lf_law_base => k_is)
    (case cf_law_base => k_is)
    (case kf_law_base => k_is)
    (case af_law_no_number => k_is)
    (case lf_law_no_number => k_is)
    (case cf_law_no_number => k_is)
    (case kf_law_no_number => k_is)
    (case alaw => k_is)
    (case llaw => k_is)
    (case claw => k_is)
    (case klaw => k_is)
    (case af_Ref_init => k_is)
    (case if_Ref_init => k_is)
    (case lf_Ref_init => k_is)
    (case cf_Ref_init => k_is)
    (case kf_Ref_init => k_is)
    (case af_Ref_eq => k_is)
    (case if_Ref_eq => k_is)
    (case lf_Ref_eq => k_is)
    (case cf_Ref_eq => k_is)
    (case kf_Ref_eq => k_is)
    (case af_Parts_init => k_is)
    (case if_Parts_init => k_is)
    (case lf_Parts_init => k_is)
    (case cf_Parts_init => k_is)
    (case kf_Parts_init => k_is)
    (case af_Table_init => k_is)
    (case if_Table_init => k_is)
    (case lf_Table_init => k_is)
    (case cf_Table_init => k_is)
    (case kf_Table_init => k_is)
    (case af_Table_has => k_is)
    (case if_Table_has => k_is)
    (case lf_Table_has => k_is)
    (case cf_Table_has => k_is)
    (case kf_Table_has => k_is)
    (case af_Table_value_of => k_is)
    (case if_Table_value_of => k_is)
    (case lf_Table_value_of => k_is)
    (case cf_Table_value_of => k_is)
    (case kf_Table_value_of => k_is)
    (case af_Table_put => k_is)
    (case if_Table_put => k_is)
    (case lf_Table_put => k_is)
    (case cf_Table_put => k_is)
    (case kf_Table_put => k_is)
    (case af_Table_pairs => k_is)
    (case if_Table_pairs => k_is)
    (case lf_Table_pairs => k_is)
    (case cf_Table_pairs => k_is)
    (case kf_Table_pairs => k_is)
    (case af_Table_many => k_is)
    (case pgtf_Table_many => k_is)
    (case ptkf_Table_many => k_is)
    (case prcf_Table_many => k_is)
    (case lf_Table_many => k_is)
    (case cf_Table_many => k_is)
    (case kf_Table_many => k_is)
    (case af_Instance_init => k_is)
    (case if_Instance_init => k_is)
    (case lf_Instance_init => k_is)
    (case cf_Instance_init => k_is)
    (case kf_Instance_init => k_is)
    (case af_Kin_init => k_is)
    (case if_Kin_init => k_is)
    (case lf_Kin_init => k_is)
    (case cf_Kin_init => k_is)
    (case kf_Kin_init => k_is)
    (case af_Copies_init => k_is)
    (case if_Copies_init => k_is)
    (case lf_Copies_init => k_is)
    (case cf_Copies_init => k_is)
    (case kf_Copies_init => k_is)
    (case af_Copies_copy_for => k_is)
    (case if_Copies_copy_for => k_is)
    (case lf_Copies_copy_for => k_is)
    (case cf_Copies_copy_for => k_is)
    (case kf_Copies_copy_for => k_is)
    (case af_Form_init => k_is)
    (case if_Form_init => k_is)
    (case lf_Form_init => k_is)
    (case cf_Form_init => k_is)
    (case kf_Form_init => k_is)
    (case af_Form_add => k_is)
    (case if_Form_add => k_is)
    (case lf_Form_add => k_is)
    (case cf_Form_add => k_is)
    (case kf_Form_add => k_is)
    (case af_Form_is_enough => k_is)
    (case if_Form_is_enough => k_is)
    (case lf_Form_is_enough => k_is)
    (case cf_Form_is_enough => k_is)
    (case kf_Form_is_enough => k_is)
    (case af_Store_init => k_is)
    (case if_Store_init => k_is)
    (case lf_Store_init => k_is)
    (case cf_Store_init => k_is)
    (case kf_Store_init => k_is)
    (case af_Store_make => k_is)
    (case if_Store_make => k_is)
    (case lf_Store_make => k_is)
    (case cf_Store_make => k_is)
    (case kf_Store_make => k_is)
    (case af_Store_at => k_is)
    (case if_Store_at => k_is)
    (case lf_Store_at => k_is)
    (case cf_Store_at => k_is)
    (case kf_Store_at => k_is)
    (case qPERCENT => k_is)
    (case qMOST_HELD => k_is)
    (case qDOUBTFUL_BITS => k_is)
    (case qDIGITS => k_is)
    (case qCAPITALS => k_is)
    (case qLEAST_BASE => k_is)
    (case qMOST_BASE => k_is)
    (case qMOST_AROUND => k_is)
    (case qNEWLINE => k_is)
    (case qFIRST => k_is)
    (case qLAST => k_is)
    (case k_Ref_Parts => kit_is)
    (case k_Ref_Table => kit_is)
    (case k_Ref_Instance => kit_is)
    (case k_Ref_Kin => kit_is)
    (case k_Ref_bool => kit_is)
    (case k_Ref_int => kit_is)
    (case k_Ref_str => kit_is)
    (case k_Parts_Ref => kit_is)
    (case k_Parts_Table => kit_is)
    (case k_Parts_Instance => kit_is)
    (case k_Parts_Kin => kit_is)
    (case k_Parts_bool => kit_is)
    (case k_Parts_int => kit_is)
    (case k_Parts_str => kit_is)
    (case k_Table_Ref => kit_is)
    (case k_Table_Parts => kit_is)
    (case k_Table_Instance => kit_is)
    (case k_Table_Kin => kit_is)
    (case k_Table_bool => kit_is)
    (case k_Table_int => kit_is)
    (case k_Table_str => kit_is)
    (case k_Instance_Ref => kit_is)
    (case k_Instance_Parts => kit_is)
    (case k_Instance_Table => kit_is)
    (case k_Instance_Kin => kit_is)
    (case k_Instance_bool => kit_is)
    (case k_Instance_int => kit_is)
    (case k_Instance_str => kit_is)
    (case k_Kin_Ref => kit_is)
    (case k_Kin_Parts => kit_is)
    (case k_Kin_Table => kit_is)
    (case k_Kin_Instance => kit_is)
    (case k_Kin_bool => kit_is)
    (case k_Kin_int => kit_is)
    (case k_Kin_str => kit_is)
    (case k_Copies_Ref => kit_is)
    (case k_Copies_Parts => kit_is)
    (case k_Copies_Table => kit_is)
    (case k_Copies_Instance => kit_is)
    (case k_Copies_Kin => kit_is)
    (case k_Copies_bool => kit_is)
    (case k_Copies_int => kit_is)
    (case k_Copies_str => kit_is)
    (case k_Form_Ref => kit_is)
    (case k_Form_Parts => kit_is)
    (case k_Form_Table => kit_is)
    (case k_Form_Instance => kit_is)
    (case k_Form_Kin => kit_is)
    (case k_Form_bool => kit_is)
    (case k_Form_int => kit_is)
    (case k_Form_str => kit_is)
    (case k_Store_Ref => kit_is)
    (case k_Store_Parts => kit_is)
    (case k_Store_Table => kit_is)
    (case k_Store_Instance => kit_is)
    (case k_Store_Kin => kit_is)
    (case k_Store_bool => kit_is)
    (case k_Store_int => kit_is)
    (case k_Store_str => kit_is)
    (case k_NoneType_Ref => kit_is)
    (case k_NoneType_Parts => kit_is)
    (case k_NoneType_Table => kit_is)
    (case k_NoneType_Instance => kit_is)
    (case k_NoneType_Kin => kit_is)
    (case k_bool_Ref => kit_is)
    (case k_bool_Parts => kit_is)
    (case k_bool_Table => kit_is)
    (case k_bool_Instance => kit_is)
    (case k_bool_Kin => kit_is)
    (case k_int_Ref => kit_is)
    (case k_int_Parts => kit_is)
    (case k_int_Table => kit_is)
    (case k_int_Instance => kit_is)
    (case k_int_Kin => kit_is)
    (case k_str_Ref => kit_is)
    (case k_str_Parts => kit_is)
    (case k_str_Table => kit_is)
    (case k_str_Instance => kit_is)
    (case k_str_Kin => kit_is)
    (case k_tuple_Ref => kit_is)
    (case k_tuple_Parts => kit_is)
    (case k_tuple_Table => kit_is)
    (case k_tuple_Instance => kit_is)
    (case k_tuple_Kin => kit_is)
    (case k_list_Ref => kit_is)
    (case k_list_Parts => kit_is)
    (case k_list_Table => kit_is)
    (case k_list_Instance => kit_is)
    (case k_list_Kin => kit_is)
    (case nf_Ref_NoneType => k_is)
    (case su_Ref_NoneType => k_is)
    (case nf_Ref_int => k_is)
    (case su_Ref_int => k_is)
    (case nf_Ref_str => k_is)
    (case su_Ref_str => k_is)
    (case nf_Ref_tuple => k_is)
    (case su_Ref_tuple => k_is)
    (case nf_Ref_list => k_is)
    (case su_Ref_list => k_is)
    (case nf_Ref_Parts => k_is)
    (case nf_Ref_Table => k_is)
    (case nf_Ref_Instance => k_is)
    (case nf_Ref_Kin => k_is)
    (case nf_Ref_Copies => k_is)
    (case nf_Ref_Form => k_is)
    (case nf_Ref_Store => k_is)
    (case zrange => k_is)
    (case zlen => k_is)
    (case zint => k_is)
    (case zstr => k_is)
    (case zbool => k_is)
    (case zisinstance => k_is)
    (case zlist => k_is)
    (case zabs => k_is)
    (case zmin => k_is)
    (case zmax => k_is)
    (case zenumerate => k_is)
    (case zzip => k_is)
    (case zall => k_is)
    (case umisqrt => k_is)
    (case umgcd => k_is)
    (case udFR => k_is)
    (case ldFR => k_is)
    (case kdFR => repeat (first | exact trivial | refine ⟨⟨_, _, rfl, rfl⟩, ?_⟩))
    (case udFU => k_is)
    (case ldFU => k_is)
    (case kdFU => repeat (first | exact trivial | refine ⟨⟨_, _, rfl, rfl⟩, ?_⟩))
    (case lowFR => first | rfl | decide +kernel)
    (case miss0 => k_is)
    (case nd0 => k_is)
    (case lt0 => k_is)
    (case vt0 => exact PySem.Paired.cons rfl (PySem.Paired.cons rfl PySem.Paired.nil))
    (case st0 => (rw [sizeLine_eq]; decide))
    (case lq0 => k_is)
    (case vq0 => repeat (first | exact PySem.Paired.nil | refine PySem.Paired.cons ⟨_, rfl⟩ ?_))
    (case sq0 => (rw [sizeLine_eq]; decide))
    (case miss1 => k_is)
    (case nd1 => k_is)
    (case lt1 => k_is)
    (case vt1 => exact PySem.Paired.cons rfl (PySem.Paired.cons rfl PySem.Paired.nil))
    (case st1 => (rw [sizeLine_eq]; decide))
    (case lq1 => k_is)
    (case vq1 => repeat (first | exact PySem.Paired.nil | refine PySem.Paired.cons ⟨_, rfl⟩ ?_))
    (case sq1 => (rw [sizeLine_eq]; decide))
    (case miss2 => k_is)
    (case nd2 => k_is)
    (case lt2 => k_is)
    (case vt2 => exact PySem.Paired.cons rfl (PySem.Paired.cons rfl PySem.Paired.nil))
    (case st2 => (rw [sizeLine_eq]; decide))
    (case lq2 => k_is)
    (case vq2 => repeat (first | exact PySem.Paired.nil | refine PySem.Paired.cons ⟨_, rfl⟩ ?_))
    (case sq2 => (rw [sizeLine_eq]; decide))
    (case miss3 => k_is)
    (case nd3 => k_is)
    (case lt3 => k_is)
    (case vt3 => exact PySem.Paired.cons rfl (PySem.Paired.cons rfl PySem.Paired.nil))
    (case st3 => (rw [sizeLine_eq]; decide))
    (case lq3 => k_is)
    (case vq3 => repeat (first | exact PySem.Paired.nil | refine PySem.Paired.cons ⟨_, rfl⟩ ?_))
    (case sq3 => (rw [sizeLine_eq]; decide))
    (case miss4 => k_is)
    (case nd4 => k_is)
    (case lt4 => k_is)
    (case vt4 => exact PySem.Paired.cons rfl (PySem.Paired.cons rfl PySem.Paired.nil))
    (case st4 => (rw [sizeLine_eq]; decide))
    (case lq4 => k_is)
    (case vq4 => repeat (first | exact PySem.Paired.nil | refine PySem.Paired.cons ⟨_, rfl⟩ ?_))
    (case sq4 => (rw [sizeLine_eq]; decide))
    (case miss5 => k_is)
    (case nd5 => k_is)
    (case lt5 => k_is)
    (case vt5 => exact PySem.Paired.cons rfl (PySem.Paired.cons rfl PySem.Paired.nil))
    (case st5 => (rw [sizeLine_eq]; decide))
    (case lq5 => k_is)
    (case vq5 => repeat (first | exact PySem.Paired.nil | refine PySem.Paired.cons ⟨_, rfl⟩ ?_))
    (case sq5 => (rw [sizeLine_eq]; decide))
