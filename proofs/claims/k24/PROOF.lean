import PyProof.Rows.All
import Wide.All
import OpenK.AllK
import Wide.FinOn
import HandS.ForMost
import HandS.ForExc
import HandS.StrMore
import HandS.IsInst
import HandS.Codes
import HandS.Flow
import HandS.More
import HandS.Walk
import HandS.OwnEq
import HandS.Style
import PyProof.Raises
import KE.RegKIsAll
import KE.KSuper
import KE.KExcSuper
import HandS.ExcInit
import HandS.Nested
import HandS.FStr
import HandS.ExcField
import HandS.ExcIs
import HandS.Wide
import HandS.Replace
import KE.GoesEnum
import HandS.ReplaceDef
import HandS.ReplaceLit
import HandS.ReplaceList
import HandS.WideBits
import HandS.Deep
import HandS.CallLocal
import HandS.CallSlots
import HandS.Star
import HandS.TupLen
import HandS.Property
import KE.KStar
import KE.KeyNested
import KE.KDictCopyH
import KE.KDictList
import PyProof.StrBlock2
import HandS.Conv
import KE.KDictWalk
import PyProof.DictValues
import PyProof.DictRoadsH
import PyProof.DictMoreH
import PyProof.Rows.TupTab
import PySem.Challenge.RW_livequill_k24_written_forms
set_option Elab.async false
set_option linter.all false
set_option maxRecDepth 100000
namespace XS
open PySem PySem.W PySem.Calls PyProof.Rows L2 NdefX
/-! ### an own exception whose __init__ begins with super().__init__(e), over ValueError -/
/-- what the written part says: of the def at fI (its code object at cda, its cell at cc), of the class D in which it is written, and of the class C that is made -/
structure Sup (prog : Program) (K : Frag) (mg : Str → Option Value) (cda cc D C : Addr) : Prop where
  code : ∃ ccl cdd vs ccs file tf, K.lookup cda = some ⟨ccl, cdd, .fields vs, ccs⟩ ∧ vs[2]? = some (.str file tf) ∧ ((prog.main.file : Str) == file) = true
  cell : ∃ cl cld csl, K.lookup cc = some ⟨cl, cld, .cell (some (.ref D)), csl⟩
  top : (prog.main.scope.names.lookup ("super" : Str)).isSome = false
  sup : mg "super" = none
  cls : ∃ cdD, clsIn K D = some cdD
  sub : mroIn K C (.ref D) = some true
  opq : nsIn K cStatics "thirdparty.any" = some none
  ini : ks_superIn K C D "__init__" = some (some (.builtin "ValueError.__init__"))
  val : subIn K (.ref C) (.type "ValueError") = some true

theorem excInit_exo {cdC : Addr} {K : Frag} (T : OexC K cdC) {h : Heap} (X : K.In h) : ∃ nm q N bs bm sn sub ab col dd k0 k1 k2 k3 k5, h.get? cdC = some (excClassObj nm q cdC N bs bm true sn sub ab col dd k0 k1 k2 k3 k5 "ValueError.__new__") ∧ PySem.HandSPX.refsVE bm = true := by
  obtain ⟨nm, q, N, bs, bm, sn, sub, ab, col, dd, k0, k1, k2, k3, k5, hC, hbm⟩ := T.cls
  exact ⟨nm, q, N, bs, bm, sn, sub, ab, col, dd, k0, k1, k2, k3, k5, X _ _ hC, hbm⟩

section
variable {X : Cx} {pins : List (Addr × Obj)} {σ : L2.St} {H : Hp} {s : Shared} {x C : Addr} {A : Around} {E : Value → Shared → Prop}
/-- the method-wrapper called -/
theorem mw_call {u : Addr} {us : List Value} {Q : Value → Shared → Prop} (T : OexC X.K C) (I : Inv X pins σ H s) (e : H x = some (exo x C none)) (hu : s.heap.get? u = some (kxs_mw "ValueError.__init__" x)) (hl : us.length ≤ sizeLine)
    (h : ∀ s', Inv X pins σ H s' → Q .none s') : wpAny (model X.prog X.w) A (call (.ref u) us) Q E s := by
  obtain ⟨nm, q, N, bs, bm, sn, sub, ab, col, dd, k0, k1, k2, k3, k5, hC, hbm⟩ := excInit_exo T I.kIn
  obtain ⟨t1, ho⟩ := exo_at I.hok e
  obtain ⟨hp, g, d, t, os⟩ := s
  refine wpAny_call (codeAny_of_tree ?_)
  show wpAny _ A.in1 (callAny (.ref u) ⟨us, []⟩) _ _ _
  simp only [callAny]
  refine wpAny_bind (wpAny_load hu ?_)
  simp only [kxs_mw, show (Value.type "method-wrapper" == Value.type "method" || Value.type "method-wrapper" == Value.type "builtin_function_or_method" || Value.type "method-wrapper" == Value.type "method-wrapper") = true by decide, if_true]
  refine KFB.if_so (by decide) ?_
  refine wpAny_bind (check_bound_init F.excBase_ValueError.toExcCallFacts hC ho rfl ?_)
  refine wpAny_bind (wpAny_pure (wpAny_pure ?_))
  refine ⟨plainId_quiet F.excBase_ValueError.init.plain _, codeAny_builtin F.excBase_ValueError.initEntry ?_⟩
  refine exc_init_tree (cls := .ref C) (t0 := t1) (dv := none) (c2 := .none) (c3 := .none) (b4 := .bool false) ho hl fun h' k hx _ => ?_
  have J := I.write (t' := t) (x := x) (e := x) (o := exo x C none) (by rw [e]; exact True.intro) (.inl rfl) k ⟨_, hx⟩ (exo_ok hx)
  have eu : upd H x (exo x C none) = H := by
    funext b
    by_cases hb : b = x
    · rw [hb, upd_same, e]
    · rw [upd_ne hb]
  rw [eu] at J
  exact h _ J
end
theorem mw_with {M : Model} {A : Around} {E : Value → Shared → Prop} {s : Shared} {u x : Addr} {i : String} {pos : Pos} {env : Env} {e : Expr} {rest : List Expr} {Q : Value → Shared → Prop}
    (he : starEach (e :: rest) env = (false, eval e env) :: starEach rest env) (hplain : (backTo pos (starEach rest env)).any (·.1) = false)
    (h : wpAny M A (spliced (backTo pos (starEach (e :: rest) env))) (fun vs s₁ => KxsAt i u x s₁.heap ∧ wpAny M A (call (.ref u) vs) Q E s₁) E s) :
    wpAny M A (callWith pos (.ref u) [] (backTo pos (starEach (e :: rest) env)) []) Q E s := by
  rw [he] at h ⊢
  refine kxs_callWith (i := i) (x := x) (by show (false || (backTo pos (starEach rest env)).any (·.1)) = false; rw [hplain]; rfl) ?_
  exact evalArgs_plain h
/-- the def's own words -/
structure SupFn where
  qual : Str
  params : Arguments
  rest : List Stmt
  scope : Scope
  cda : Addr
  cc : Addr
  arg : Expr
  p0 : Pos
  p1 : Pos
  p2 : Pos
  p3 : Pos
  p4 : Pos
abbrev SupFn.body (F : SupFn) : List Stmt := .Expr (.Call (.Attribute (.Call (.Name "super" F.p0) [] [] F.p1) "__init__" F.p2) [F.arg] [] F.p3) F.p4 :: F.rest
abbrev SupFn.nf (F : SupFn) : NF := ⟨"__init__", F.qual, F.params, F.body, F.scope, [("__class__", F.cc)], F.cda⟩
def SupFn.Ev (F : SupFn) : Prop := ∀ env : Env, (∃ pl : Sem Bool, eval (.Call (.Attribute (.Call (.Name "super" F.p0) [] [] F.p1) "__init__" F.p2) [F.arg] [] F.p3) env = (do
      let ov ← attributeBase (.Call (.Name "super" F.p0) [] [] F.p1) "__init__" env (eval (.Call (.Name "super" F.p0) [] [] F.p1) env)
      standAt F.p2.atName
      let (f, first) ← holding [ov] (getMethod ov "__init__" pl)
      callWith F.p3 f first (backTo F.p3 (starEach [F.arg] env)) [])) ∧ starEach [F.arg] env = (false, eval F.arg env) :: starEach [] env ∧ swapsWith (.Call (.Attribute (.Call (.Name "super" F.p0) [] [] F.p1) "__init__" F.p2) [F.arg] [] F.p3) none F.p4.line env = pure false
theorem fn_super {CX : CXT} {P : Program} {w : World} {K : Frag} {mg : Str → Option Value} {base : Heap} {k : Nat} {fI D : Addr} {F : SupFn} {dV kV doc pm ct oc : Value} {an od : Option Addr} {osl : Array (Option Value)} {N ps : List Str} {sp : Sp} {ar : Arg}
    (lk : K.lookup fI = some ⟨oc, od, .func (ksFn "__init__" F.qual F.params F.body F.scope dV kV doc pm an (.ref F.cda) ct F.cc), osl⟩) (hcd : codeIn K (.ref F.cda) F.qual = true) (S : NScope N ps ["__class__"] F.scope)
    (hp : (F.params.posonlyargs ++ F.params.args).head? = some ar) (h0 : ps.head? = some ar.arg) (hks : F.scope.names.lookup ("super" : Str) = some .globalImplicit)
    (hev : F.Ev) (len : ∀ vs H Q E, sp vs H Q E → vs.length = ps.length)
    (hbody : ∀ (A : Around) (outer : List Env) (s : Shared) (H : Hp) (vs : List V) (Q : VK) (E : XK), Room k (A.deeper (envF F.nf fI s.heap.objs.size)) → sp vs H Q E →
      ∃ (x C : Addr) (ta : TA) (t : TS), vs.head? = some (.ref x) ∧ H x = some (exo x C none) ∧ OexC K C ∧ Sup P K mg F.cda F.cc D C ∧
        PA (ncx CX P w K mg base N F.nf fI A outer s H E) [F.arg] ta ∧ PSs (ncx CX P w K mg base N F.nf fI A outer s H E) F.rest t ∧
        ta (startF N vs [none]) H fun ws H1 => ws.length ≤ 1000 ∧ H1 x = some (exo x C none) ∧ t { nx := fun _ H' => Q .non H', rt := Q } (startF N vs [none]) H1) :
    FnOk P w K mg base CX (k + 1) fI (ksFn "__init__" F.qual F.params F.body F.scope dV kV doc pm an (.ref F.cda) ct F.cc) ps sp := by
  refine ⟨len, fun A outer s H args us vs Q E hr e0 hb r hsp => ?_⟩
  have hl := len _ _ _ _ hsp
  have KX : K.In s.heap := e0.mod.kin.keeps fun b o e => (e0.bs b o e).1
  have lim : s.heap.NoLimit := e0.mod.nolimit.keeps fun b o e => (e0.bs b o e).1
  obtain ⟨x, C, ta, t, hx0, hx, T, U, pa, pb, hq⟩ := hbody A outer s H vs Q E (hr.deeper _) hsp
  obtain ⟨ccl, cdd, cvs, ccs, file, tf, hcode, hvs, hfile⟩ := U.code
  obtain ⟨cl, cld, csl, hcell⟩ := U.cell
  obtain ⟨cdD, hD⟩ := U.cls
  refine ks_codeAny_call_defAt (fd := ksFn "__init__" F.qual F.params F.body F.scope dV kV doc pm an (.ref F.cda) ct F.cc) (body := F.body) (binds := ps.zip us) hr.depth (KX _ _ lk) rfl lim (codeRec_of KX hcd) rfl hb S.nocell (fun ⟨n, _⟩ hy => S.par n (List.of_mem_zip hy).1) (fun h₁ hns kp => ?_) S.co S.gen S.kind
  have CA : CellsAt F.nf.cl ["__class__"] [none] s.heap H := by
    have hc0 : base.get? F.cc = _ := e0.mod.kin _ _ hcell
    obtain ⟨g1, g2⟩ := e0.bs _ _ hc0
    have key : ∀ y c, F.nf.cl.lookup y = some c → y = "__class__" ∧ c = F.cc := fun y c e => by
      by_cases hy : y = "__class__"
      · subst hy
        have e' : some F.cc = some c := by simpa [List.lookup] using e
        exact ⟨rfl, (Option.some.inj e').symm⟩
      · have hne : (y == ("__class__" : Str)) = false := by simpa using hy
        have e' : (none : Option Addr) = some c := by simpa [List.lookup, hne] using e
        cases e'
    refine ⟨rfl, fun y c e => ?_, fun a b c e1 e2 => (key _ _ e1).1.trans (key _ _ e2).1.symm, fun i y e => ?_⟩
    · obtain ⟨_, rfl⟩ := key y c e
      exact ⟨g2, _, _, g1, rfl⟩
    · obtain rfl : y = "__class__" := by
        cases i with
        | zero => exact (Option.some.inj e).symm
        | succ i => cases e
      refine ⟨F.cc, by simp [List.lookup], fun v e' => ?_⟩
      cases i with
      | zero => cases e'
      | succ i => cases e
  have I : Inv (ncx CX P w K mg base N F.nf fI A outer s H E) [] (startF N vs [none]) H { s with heap := h₁, toks := s.toks + (ps.zip us).length } := inv_startN (F := F.nf) S hr.hd e0 hl r CA hns kp
  generalize hs1 : ({ s with heap := h₁, toks := s.toks + (ps.zip us).length } : Shared) = s1 at I ⊢
  have X1 : K.In s1.heap := I.kIn
  obtain ⟨t1, ho⟩ := exo_at I.hok hx
  obtain ⟨oD, hD1, hD2⟩ : ∃ oD, s1.heap.get? D = some oD ∧ oD.data = .cls cdD := by
    unfold clsIn at hD
    split at hD
    · rename_i c d cd' sl ho
      cases hD
      exact ⟨_, X1 _ _ ho, rfl⟩
    · cases hD
  have J : InstAt s1.heap x { cls := .ref C, dict := none, data := .fields #[.ref t1, .none, .none, .none, .bool false, .none] } C none := ⟨ho, rfl, rfl, trivial⟩
  have hself : ∃ u0 ur, us = u0 :: ur ∧ u0 = .ref x := by
    cases vs with
    | nil => cases hx0
    | cons v vr =>
      cases r with
      | @cons _ u0 _ ur ra rr =>
        obtain rfl : v = V.ref x := Option.some.inj hx0
        exact ⟨_, _, rfl, ra⟩
  obtain ⟨u0, ur, eu, eu0⟩ := hself
  subst eu0
  have hN : ∃ pr, ps = ar.arg :: pr := by
    cases ps with
    | nil => cases h0
    | cons a pr =>
      obtain rfl : a = ar.arg := Option.some.inj h0
      exact ⟨pr, rfl⟩
  obtain ⟨pr, eps⟩ := hN
  have ndP : ps.Nodup := by
    have q := S.nd.sublist (List.take_sublist (ps.length + (["__class__"] : List Str).length) N)
    rw [S.pre] at q
    exact (List.nodup_append.mp q).1
  have hns1 : s1.heap.Ns s.heap.objs.size (fun y => (ps.zip us).reverse.lookup y) := by rw [← hs1]; exact hns
  have hav : (ps.zip us).reverse.lookup ar.arg = some (.ref x) := zip_look (i := 0) ndP (by rw [eps]; rfl) (by rw [eu]; rfl)
  have ea : (ncx CX P w K mg base N F.nf fI A outer s H E).xe = fun e s' => wpAny (model P w) (A.deeper (envF F.nf fI s.heap.objs.size)) (leaving (envF F.nf fI s.heap.objs.size) e) (fun _ s'' => CX outer H s E e s'') (fun e' s'' => CX outer H s E e' s'') s' := rfl
  show _root_.PySem.wpAt (model P w) (A.deeper (envF F.nf fI s.heap.objs.size)) (.func F.body (envF F.nf fI s.heap.objs.size)) (execs F.body (envF F.nf fI s.heap.objs.size)) _ (ncx CX P w K mg base N F.nf fI A outer s H E).xe s1
  obtain ⟨⟨pl, hev1⟩, hev2, hev3⟩ := hev (envF F.nf fI s.heap.objs.size)
  refine ks_wpAt_execs_cons (ks_wpAt_Expr_any (ks_wpAt_MethodCall (pl := pl) ?_ hev1) (by show interactive (envF F.nf fI s.heap.objs.size) = false; simp [interactive, S.kind]) hev3)
  obtain ⟨mb, hb1, hb2⟩ := e0.mod.blt
  refine ks_wpAt_super_base (env := envF F.nf fI s.heap.objs.size) (of := _) (fd := _) (ar := ar) (oc := _) hks (S.frk _ (by simp)) rfl rfl (X1 _ _ lk) rfl hp rfl (X1 _ _ hcode) rfl hvs hfile U.top ?_
  refine ks_loadName_global S.kind hks (loadGlobal_builtin (env := envF F.nf fI s.heap.objs.size) (e0.mod.glob.keeps I.bk) U.sup (hb1.keeps I.bk) ((hb2 _ (by decide)).trans (by decide +kernel)) ⟨rfl, ?_⟩)
  refine wpAny_loadName_free S.kind (S.frk _ (by simp)) rfl ⟨_, X1 _ _ hcell, rfl⟩ ?_
  refine wpAny_loadName_local S.kind (S.par _ (by rw [eps]; simp)) hns1 hav ?_
  refine ks_wpAny_isType_cls hD1 hD2 ⟨rfl, ?_⟩
  clear hns kp
  obtain ⟨hp1, g1, d1, tk1, os1⟩ := s1
  refine ks_wpAny_call_super hD1 hD2 J.at_ J.cls (fun c e => by cases e) (looks_mroIn X1 U.sub) (fun h2 es2 k2 => ?_)
  have I2 := I.kept (t' := tk1) k2
  have X2 : K.In h2 := I2.kIn
  have J2 : InstAt h2 x { cls := .ref C, dict := none, data := .fields #[.ref t1, .none, .none, .none, .bool false, .none] } C none := ⟨k2 _ _ ho, rfl, rfl, trivial⟩
  have hI : Looks (model P w) h2 (isInstance (.ref x) (.type "ValueError")) true := J2.type.andThen (looks_subIn X2 U.val)
  have hini := U.ini
  cases hc : clsIn K C with
  | none => unfold ks_superIn at hini; rw [hc] at hini; cases hini
  | some cd =>
    unfold ks_superIn at hini
    rw [hc] at hini
    refine kxs_getMethod kxs_ValueError es2 (looks_opaque X2 U.opq) (l₀ := cd.mro) (fun A Q E s k q => wpAny_bind ((looks_clsIn X2 hc) A _ E s k (wpAny_pure q))) rfl X2 hini hI (ks_ne X2 J2 hc) rfl ?_
    have k3 : ∀ b o, h2.get? b = some o → (h2.push (kxs_mw "ValueError.__init__" x)).get? b = some o := fun b o e => Heap.get?_push_of_some _ e
    have I3 := I2.kept (h' := h2.push (kxs_mw "ValueError.__init__" x)) (t' := tk1 + 1) k3
    have hu : (h2.push (kxs_mw "ValueError.__init__" x)).get? h2.objs.size = some (kxs_mw "ValueError.__init__" x) := Heap.get?_push_at rfl rfl
    have pin : Inv (ncx CX P w K mg base N F.nf fI A outer s H E) [(h2.objs.size, kxs_mw "ValueError.__init__" x)] (startF N vs [none]) H ⟨h2.push (kxs_mw "ValueError.__init__" x), g1, d1, tk1 + 1, os1⟩ := by
      refine Inv.pins_of I3 fun p hp => ?_
      obtain rfl : p = (h2.objs.size, kxs_mw "ValueError.__init__" x) := by simpa using hp
      refine ⟨hu, I2.hok.fresh (Nat.le_refl _), ?_, I2.nofs (Nat.le_refl _), fun v e => by cases e⟩
      exact Nat.ne_of_gt I2.lt
    refine mw_with (i := "ValueError.__init__") (x := x) hev2 rfl ?_
    refine wpAny_mono (pa.run F.p3 _ _ _ _ _ pin hq) (fun ws s2 hh => ?_) fun e s' hs => hs
    obtain ⟨vs2, H2, I4, r4, hlen, hx4, hq4⟩ := hh
    have hu4 : s2.heap.get? h2.objs.size = some (kxs_mw "ValueError.__init__" x) := (I4.pin (h2.objs.size, kxs_mw "ValueError.__init__" x) (by simp)).1
    refine ⟨hu4, ?_⟩
    have hlw : ws.length ≤ sizeLine := by
      rw [← r4.length, sizeLine_eq]
      omega
    refine mw_call (X := ncx CX P w K mg base N F.nf fI A outer s H E) T I4 hx4 hu4 hlw fun s5 I5 => ?_
    have I6 : Inv (ncx CX P w K mg base N F.nf fI A outer s H E) [] (startF N vs [none]) H2 s5 := I5.pins_of fun p hp => absurd hp (by simp)
    refine wpAt_of_wpAny (wpAny_mono (pb.run [] s5 _ H2 _ I6 hq4) (fun fl s' hs => ?_) fun e s' hs => hs)
    have fin : ∀ {σ' : L2.St} {H' : Hp} {v : V} {u : Value}, Inv (ncx CX P w K mg base N F.nf fI A outer s H E) [] σ' H' s' → L2.RelV v u → Q v H' → CE outer P w H s Q u s' :=
      fun {σ' H' v u} J rv q => ⟨v, H', J.os, J.bare, J.base, J.hok, rv, q⟩
    cases fl with
    | ret u =>
      obtain ⟨v, σ', H', J, rv, q⟩ := hs
      exact fin J rv q
    | next =>
      obtain ⟨σ', H', J, q⟩ := hs
      exact fin (v := V.non) (u := Value.none) J rfl q
    | brk =>
      obtain ⟨_, _, _, q⟩ := hs
      exact False.elim q
    | cont =>
      obtain ⟨_, _, _, q⟩ := hs
      exact False.elim q
end XS
namespace XS
open PySem L2 NdefX
/-- the words of an __init__ that begins with super().__init__(e) -/
def supOf (st : Stmt) (qual : Str) (cda cc : Addr) : SupFn := match defBody st with
  | .Expr (.Call (.Attribute (.Call (.Name _ p0) _ _ p1) _ p2) (a :: _) _ p3) p4 :: rest => ⟨qual, defArgs st, rest, defScope st, cda, cc, a, p0, p1, p2, p3, p4⟩
  | _ => ⟨qual, defArgs st, [], defScope st, cda, cc, .Name "x" ⟨0, 0, 0, 0⟩, ⟨0, 0, 0, 0⟩, ⟨0, 0, 0, 0⟩, ⟨0, 0, 0, 0⟩, ⟨0, 0, 0, 0⟩, ⟨0, 0, 0, 0⟩⟩
/-- an __init__(self, n1, n2) of an own exception: f'..' of both to super's, then both are stored -/
def spTwo (C : Addr) (n1 n2 : Str) : Sp := fun vs H Q _ => ∃ a v1 v2, vs = [.ref a, v1, v2] ∧ H a = some (exo a C none) ∧ (∃ k : Str, v1 = .str k ∧ k.length ≤ 100000) ∧ (∃ k : Str, v2 = .str k ∧ k.length ≤ 100000) ∧
  ∀ d, H d = none → d ≠ a → Q .non (upd (upd (upd H d (exd d [(n1, v1)])) a (exo a C (some d))) d (exd d [(n2, v2), (n1, v1)]))
/-- what the written part says of the class at C and of its __init__ at fI -/
structure Exn (prog : Program) (K : PySem.W.Frag) (mg : Str → Option Value) (C fI : Addr) (n1 n2 : Str) : Prop where
  oex : OexC K C
  n1 : PySem.W.findIn K (.ref C) n1 = some none
  n2 : PySem.W.findIn K (.ref C) n2 = some none
  iC : PySem.W.findIn K (.ref C) "__init__" = some (some (.ref fI))
  tI : PySem.W.typeIn K (.ref fI) = some (.type "function")
  xf : XfC K C
  te : PySem.W.exmOne K (.ref C) (.ref C) = some true
/-- the end of C(e, ..) as the caller has it -/
theorem made_two {C : Addr} {n1 n2 : Str} {v1 v2 : V} {H : Hp} {a d : Addr} (hne : d ≠ a) (ha : H a = none) :
    upd (del (upd (upd (upd (upd H a (exo a C none)) d (exd d [(n1, v1)])) a (exo a C (some d))) d (exd d [(n2, v2), (n1, v1)])) a) d (.xd [(n2, v2), (n1, v1)]) = upd H d (.xd [(n2, v2), (n1, v1)]) := by
  funext b
  by_cases hb : b = d
  · rw [hb, upd_same, upd_same]
  · rw [upd_ne hb, upd_ne hb]
    by_cases hc : b = a
    · rw [hc, del_same, ha]
    · rw [del_ne hc, upd_ne hb, upd_ne hc, upd_ne hb, upd_ne hc]
section
variable {X : Cx} {C fI : Addr} {n1 n2 x : Str} {e : Expr} {es : List Expr} {ta : TA} {p pos pos2 : Pos} {fd : FuncData} {k : Nat}
/-- raise C(e1, e2) -/
theorem ps_raise2 {W : WX} (hc : X.calm = true) (T : Exn X.prog X.K X.mg C fI n1 n2) (F : FnOk X.prog X.w X.K X.mg X.base CX0 k fI fd ["self", n1, n2] (spTwo C n1 n2)) (hr : Room (k + 1) X.A) (tk : Takes X W) (hb : Binds X.K fd ["self", n1, n2] []) (hg : Gl X x) (hm : X.mg x = some (.ref C)) (ha : PA X (e :: es) ta)
    (hdb : (x == ("__debug__" : Str)) = false := by decide) (he : starEach (e :: es) X.env = (false, eval e X.env) :: starEach es X.env := by rfl) (hpl : (backTo pos (starEach es X.env)).any (·.1) = false := by rfl) :
    PS X (.Raise (some (.Call (.Name x p) (e :: es) [] pos)) none pos2) (fun _ σ H => tMkO C (spTwo C n1 n2) [] ta σ H fun cls d H' => W cls d σ H') := ps_raise (pos := pos2) hc tk (pmk_oex (e := e) (es := es) (p := p) (pos := pos) T.oex T.iC T.tI F hr hb .nil pass0 hg hm ha hdb he hpl)
/-- .. its reading, behind the arguments' -/
theorem made2 {k1 k2 : Str} {H1 : Hp} {Q : XK} (z1 : k1.length ≤ 100000) (z2 : k2.length ≤ 100000) (w : ∀ d, H1 d = none → Q (.ref C) (some d) (upd H1 d (.xd [(n2, .str k2), (n1, .str k1)]))) :
    ([.str k1, .str k2] : List V).length ≤ 1000 ∧ ∀ a, H1 a = none → spTwo C n1 n2 (.ref a :: ([.str k1, .str k2] ++ [])) (upd H1 a (exo a C none))
      (fun v H2 => v = .non ∧ ∃ (d : Addr) (fs : List (Str × V)), H2 a = some (exo a C (some d)) ∧ H2 d = some (exd d fs) ∧ H1 d = none ∧ Q (.ref C) (some d) (upd (del H2 a) d (.xd fs))) (fun _ _ _ => False) := by
  refine ⟨by show 2 ≤ 1000; omega, fun a ha => ?_⟩
  refine ⟨a, .str k1, .str k2, rfl, upd_same, ⟨_, rfl, z1⟩, ⟨_, rfl, z2⟩, fun d hd hne => ⟨rfl, d, _, ?_, upd_same, ?_, ?_⟩⟩
  · rw [upd_ne (Ne.symm hne)]
    exact upd_same
  · rw [upd_ne hne] at hd
    exact hd
  · rw [upd_ne hne] at hd
    rw [made_two hne ha]
    exact w d hd
end
end XS
namespace PySem.W
open PySem PySem.Spec PySem.Calls PyProof.Rows
section
variable {prog : Program} {w : World} {A : Around} {E : Value → Shared → Prop} {s : Shared} {K : Frag} {x D : Addr} {ox : Obj}
theorem xs_findObj {C : Addr} {od : Option Obj} {name : Str} {a g : Value} (hc : (clsIn K C).isSome = true) (ha : findIn K (.ref C) name = some (some a)) (hg : specialIn K a "__get__" = some (some g)) (ht : takesIn K a = some true) : findObj K C od name = some (.bind g a) := by
  obtain ⟨cd, hc⟩ := Option.isSome_iff_exists.mp hc
  unfold findObj
  rw [hc, Option.bind_some, ha, Option.bind_some]
  simp [hg, ht]
theorem xs_class {Q : Option Value → Shared → Prop} (hga : findIn K (.ref D) "__getattribute__" = some (some (.builtin "BaseException.__getattribute__"))) (hgt : findIn K (.ref D) "__getattr__" = some none) (hsub : subIn K (.ref D) (.type "BaseException") = some true)
    (hdct : hasDictIn K D = true) (ha : findIn K (.ref D) "__class__" = some (some (.builtin "object.__class__")))
    (hn : specialIn K (.builtin "object.__class__") "__get__" = some (some (.builtin "getset_descriptor.__get__"))) (htk : takesIn K (.builtin "object.__class__") = some true) (hm : mroIn K D (.type "object") = some true)
    {odx : Option Obj} (X : K.In s.heap) (I : InstAt s.heap x ox D odx) (h : Q (some (.ref D)) { s with toks := s.toks + 1 }) : wpAny (model prog w) A (getAttr? (.ref x) "__class__") Q E s := by
  have hf : findObj K D odx "__class__" = some (.bind (.builtin "getset_descriptor.__get__") (.builtin "object.__class__")) := xs_findObj (by obtain ⟨cd, hc, _⟩ := any_some hdct; rw [hc]; rfl) ha hn htk
  obtain ⟨hp, g, d, t, os⟩ := s
  have L0 := I.type (M := model prog w)
  have L1 := looks_findIn (M := model prog w) X hga
  have L2 := looks_findIn (M := model prog w) X hgt
  have L3 := looks_find (M := model prog w) X I hf
  have sub : Looks (model prog w) hp (isInstance (.ref x) (.type "BaseException")) true := L0.andThen (looks_subIn X hsub)
  have hx0 : (false && onTheHeap (Value.builtin "BaseException.__getattribute__")) = false := rfl
  have hx2 : (Value.builtin "BaseException.__getattribute__" == Value.builtin "object.__getattribute__") = false := by decide +kernel
  have hx1 : (onTheHeap (Value.ref D) && Value.builtin "BaseException.__getattribute__" == Value.builtin "object.__getattribute__") = false := by rw [hx2]; rfl
  unfold getAttr? getAttrBy? getAttrBy
  refine wpAny_bind (wpAny_mkText (wpAny_bind (wpAny_attempt (wpAny_holding (wpAny_bind (L0.at (wpAny_bind (L1.at ?_))))))))
  show wpAny _ _ (if (onTheHeap (Value.ref D) && Value.builtin "BaseException.__getattribute__" == Value.builtin "object.__getattribute__") = true then _ else _) _ _ _
  rw [hx1, if_neg Bool.false_ne_true]
  unfold getAttrByItsOwn hookBefore
  refine wpAny_bind ?_
  rw [if_pos (show onTheHeap (Value.ref D) = true from rfl)]
  refine L2.at ?_
  refine wpAny_bind (wpAny_attempt (wpAny_holding ?_))
  unfold callGetattribute
  rw [hx0, if_neg Bool.false_ne_true]
  unfold boundAndCalled
  rw [PySem.F.excAttr_ValueError.ga.bind (.ref x)]
  refine wpAny_bind (wpAny_pure ?_)
  show wpAny _ _ (call (.builtin "BaseException.__getattribute__") [.ref x, .str "__class__" t]) _ _ _
  refine wpAny_call (codeAny_call_builtin PySem.F.excAttr_ValueError.ga.plain PySem.F.entry_bexc_ga ?_)
  refine @check_slot (model prog w) _ _ ⟨hp, g, d, t + 1, os⟩ "BaseException.__getattribute__" "BaseException" "__getattribute__" (.ref x) [.str "__class__" t] [] _ (by decide +kernel) (by decide +kernel) sub (PySem.F.args_bexc_ga (.ref x) (.str "__class__" t)) ?_
  unfold Builtin.«object.__getattribute__»
  refine wpAny_bind (wpAny_of_eq (a := ((Value.ref x : Value), [Value.str "__class__" t])) (by first | rfl | (simp only [slotArgs]; rfl)) ?_)
  refine wpAny_bind (wpAny_pure (wpAny_bind (L0.at (wpAny_bind (L3.at ?_)))))
  show wpAny _ _ (holding [Value.builtin "object.__class__"] (call (.builtin "getset_descriptor.__get__") [.builtin "object.__class__", .ref x, .ref D]) >>= ret) _ _ _
  refine wpAny_bind (wpAny_holding (wpAny_call (class_get (s := ⟨hp, g, d, t + 1, os⟩) (ox := ox) (od := odx) X I hm ?_)))
  refine wpAny_pure ?_
  show wpAny _ _ (handedOut (.ref D)) _ _ _
  rw [handedOut_of (v := .ref D) rfl]
  first
    | exact wpAny_pure (wpAny_pure h)
    | exact wpAny_pure h
    | exact wpAny_pure (wpAny_bind (wpAny_pure (wpAny_pure h)))
theorem xs_kitx {odx : Option Obj} (hga : findIn K (.ref D) "__getattribute__" = some (some (.builtin "BaseException.__getattribute__"))) (hgt : findIn K (.ref D) "__getattr__" = some none) (hsub : subIn K (.ref D) (.type "BaseException") = some true) (hdct : hasDictIn K D = true) (ha : findIn K (.ref D) "__class__" = some (some (.builtin "object.__class__")))
    (hn : specialIn K (.builtin "object.__class__") "__get__" = some (some (.builtin "getset_descriptor.__get__"))) (htk : takesIn K (.builtin "object.__class__") = some true) (hm : mroIn K D (.type "object") = some true) :
    KitX K (.ref x) (.ref D) (fun h => InstAt h x ox D odx) where
  ty := fun _ _ _ I => I.type
  it := fun _ _ X _ => by
    obtain ⟨cdD, hcD, _⟩ := any_some hdct
    unfold clsIn at hcD
    split at hcD
    · rename_i c' d' cd' sl' ho
      intro A' Q' E' s' k q
      unfold isType loadHead
      exact wpAny_bind (wpAny_loadPart (k _ _ (X _ _ ho)) (wpAny_pure q))
    · cases hcD
  ne := fun h tp dd its n sl X htp => by
    obtain ⟨cdD, hcD, _⟩ := any_some hdct
    refine Bool.eq_false_iff.mpr fun q => ?_
    have e : D = tp := Value.ref.inj (beq_iff_eq.mp q)
    subst e
    unfold clsIn at hcD
    split at hcD
    · rename_i c' d' cd' sl' ho
      have z := (X _ _ ho).symm.trans htp
      cases z
    · cases hcD
  ca := fun X I k => xs_class hga hgt hsub hdct ha hn htk hm X I k
end
end PySem.W
namespace L2
open PySem PySem.Spec PyProof.Rows
/-- isinstance(e, c), e the exception that the suite holds, with fields of its own -/
def rIsED (K : PySem.W.Frag) (D a : Addr) (cls : Value) (d : Option Addr) : List V → Hp → VK → Prop := fun xs H Q => ∃ (c : V) (cv : Value) (b : Bool) (dd : Addr) (fs : List (Str × V)), cls = .ref D ∧ d = some dd ∧ xs = [.ref a, c] ∧ (∀ u, RelV c u → u = cv) ∧ H dd = some (.xd fs) ∧ PySem.W.kitOne K (.ref D) cv = some b ∧ Q (.bl b) H
theorem call_isED {X : Cx} {a D : Addr} {oe : Obj} {cls : Value} {d : Option Addr} {pn : List (Addr × Obj)} (C : ExcC X.K D) (hz : Zc cls d oe) (hf : ∃ vs, oe.data = .fields vs) : CallR (X.suite a ((a, oe) :: pn)) (.builtin "isinstance") (rIsED X.K D a cls d) := by
  intro pins s σ H xs us Q I r h
  obtain ⟨c, cv, b, dd, fs, rfl, rfl, rfl, hcv, hdd, e, q⟩ := h
  cases r with
  | cons rx rr =>
    cases rr with
    | cons rt rr =>
      cases rr
      cases rx
      have ec := hcv _ rt
      subst ec
      obtain ⟨hget, _⟩ := I.pin (a, oe) (List.mem_append.mpr (.inl List.mem_cons_self))
      obtain ⟨vs, hv⟩ := hf
      have hx : ObjOk X.prog X.w H s.heap dd (.xd fs) := I.hok dd _ hdd
      obtain ⟨mA, hns, hr⟩ := hx
      obtain ⟨od, ho, hl⟩ := lookIn_ns hns
      have J : PySem.W.InstAt s.heap a oe D (some od) := ⟨hget, hz.1, by unfold PySem.W.notCls; rw [hv] <;> rfl, by rw [hz.2]; exact ho⟩
      exact PySem.W.kia_one (PySem.W.xs_kitx C.hg C.hk C.hs C.hd C.ha C.hn C.ht C.hm) I.kIn J e (fun z => nomatch z) fun tk => ⟨.bl b, H, I.kept (t' := tk) fun _ _ z => z, rfl, q⟩
end L2
/-! own text: a dict whose keys are pairs of a mark (is it a bool?) and a key: null, a bool, a number, a text -/
namespace XT
open PySem PySem.Spec PyProof.Rows L2
def fk : V → NestedKey
  | .bl b => .num (if b = true then 1 else 0) | .int i => .num i | .str x => .text x | _ => .none
def isB : V → Bool
  | .bl _ => true | _ => false
def tk (k : V) : NestedKey := .tup [.num (if isB k = true then 1 else 0), fk k]
def keyOk : V → Bool
  | .non | .bl _ | .int _ | .str _ => true | _ => false
theorem tk_inj {a b : V} (ha : keyOk a = true) (hb : keyOk b = true) (h : tk a = tk b) : a = b := by
  unfold tk at h
  injection h with h
  injection h with h1 h2
  injection h2 with h2 _
  injection h1 with h1
  cases a <;> cases b <;> simp_all [fk, isB, keyOk]
  case bl.bl x y => cases x <;> cases y <;> simp_all
theorem tk_depth (k : V) : (tk k).depth ≤ 8 := by
  cases k <;> simp [tk, fk, NestedKey.depth, NestedKey.depthAll]
abbrev Ent := V × Addr × V
abbrev EV : List Ent → List (NestedKey × Addr × Value) → Prop := Paired fun p q => tk p.1 = q.1 ∧ p.2.1 = q.2.1 ∧ RelV p.2.2 q.2.2
def TabO (P : Program) (w : World) (a : Addr) (es : List Ent) : HO := .ext fun h => (a == sysModules) = false ∧ ∃ xs o ds ep, EV es xs ∧ h.get? a = some o ∧ o.ExactDict ∧ o.data = .dict ds ep ∧ ds.toList = xs.map (entryOfKey (nestedKind P w)) ∧ (xs.map (·.1)).Nodup
structure TabAt (P : Program) (w : World) (H : Hp) (a : Addr) (es : List Ent) : Prop where
  at_ : H a = some (TabO P w a es)
  keys : ∀ e ∈ es, keyOk e.1 = true ∧ H e.2.1 = some (.tup [.bl (isB e.1), e.1])
  len : es.length ≤ 1000000
def valT (es : List Ent) (k : V) : Option V := (es.find? fun e => decide (e.1 = k)).map (·.2.2)
def putT (es : List Ent) (k : V) (b : Addr) (v : V) : List Ent := if (valT es k).isSome = true then es.map (fun e => if e.1 = k then (e.1, e.2.1, v) else e) else es ++ [(k, b, v)]
def dropT (es : List Ent) (k : V) : List Ent := es.filter fun e => decide (e.1 ≠ k)
theorem key_is {P : Program} {w : World} {H : Hp} {h : Heap} {b : Addr} {k : V} (ok : HOk P w H h) (hk : keyOk k = true) (e : H b = some (.tup [.bl (isB k), k])) : (nestedKind P w).is h (tk k) b := by
  obtain ⟨_, its, r, o, h1, h2, n, h3⟩ := (show ObjOk P w H h b (.tup [.bl (isB k), k]) from ok b _ e)
  refine ⟨.tup h1 h2 h3 ?_, tk_depth k⟩
  cases r with
  | cons r1 r2 =>
    cases r2 with
    | cons r2 r3 =>
      cases r3
      cases (show _ = Value.bool (isB k) from r1)
      refine .cons (.bool rfl) (.cons ?_ .nil)
      cases k with
      | non => cases (show _ = Value.none from r2); exact .none
      | bl b => cases (show _ = Value.bool b from r2); exact .bool rfl
      | int i => obtain ⟨t, rfl⟩ := r2; exact .int i t
      | str x => obtain ⟨t, rfl⟩ := r2; exact .text x t
      | _ => exact nomatch hk
theorem EV.val {es : List Ent} {xs : List (NestedKey × Addr × Value)} (r : EV es xs) {k : V} (hk : keyOk k = true) (he : ∀ e ∈ es, keyOk e.1 = true) : RelO (valT es k) ((atKey xs (tk k)).map (·.2)) := by
  induction r with
  | nil => exact True.intro
  | @cons p q ps qs h t ih =>
    obtain ⟨h1, _, h2⟩ := h
    have ih := ih fun e m => he e (List.mem_cons_of_mem _ m)
    unfold valT at ih ⊢
    by_cases e : p.1 = k
    · have e' : q.1 = tk k := by rw [← h1, e]
      have b : atKey (q :: qs) (tk k) = some q.2 := by simp [atKey, List.find?_cons, e']
      rw [b, List.find?_cons, show decide (p.1 = k) = true from decide_eq_true e]
      exact h2
    · have e' : ¬ q.1 = tk k := fun z => e (tk_inj (he p (List.mem_cons_self ..)) hk (h1.trans z))
      have b : atKey (q :: qs) (tk k) = atKey qs (tk k) := by simp [atKey, List.find?_cons, e']
      rw [b, List.find?_cons, show decide (p.1 = k) = false from decide_eq_false e]
      exact ih
theorem EV.put {es : List Ent} {xs : List (NestedKey × Addr × Value)} (r : EV es xs) {k : V} {b : Addr} {v : V} {u : Value} (hk : keyOk k = true) (he : ∀ e ∈ es, keyOk e.1 = true) (rv : RelV v u) : EV (putT es k b v) (storedH xs (tk k) b u) := by
  have e : (valT es k).isSome = (atKey xs (tk k)).isSome := by
    rw [(r.val hk he).isSome_eq, Option.isSome_map]
  unfold putT storedH
  rw [e]
  by_cases q : (atKey xs (tk k)).isSome = true
  · rw [if_pos q, if_pos q]
    clear e q
    induction r with
    | nil => exact .nil
    | @cons p q ps qs h t ih =>
      rw [List.map_cons, List.map_cons]
      refine .cons ?_ (ih fun e m => he e (List.mem_cons_of_mem _ m))
      obtain ⟨h1, h2, h3⟩ := h
      unfold putAt
      by_cases e : p.1 = k
      · rw [if_pos e, if_pos (by rw [← h1, e])]
        exact ⟨h1, h2, rv⟩
      · rw [if_neg e, if_neg (fun z => e (tk_inj (he p (List.mem_cons_self ..)) hk (h1.trans z)))]
        exact ⟨h1, h2, h3⟩
  · rw [if_neg q, if_neg q]
    exact Paired.snoc r ⟨rfl, rfl, rv⟩
theorem EV.drop {es : List Ent} {xs : List (NestedKey × Addr × Value)} (r : EV es xs) {k : V} (hk : keyOk k = true) (he : ∀ e ∈ es, keyOk e.1 = true) : EV (dropT es k) (withoutH xs (tk k)) := by
  unfold dropT withoutH
  induction r with
  | nil => exact .nil
  | @cons p q ps qs h t ih =>
    have ih := ih fun e m => he e (List.mem_cons_of_mem _ m)
    obtain ⟨h1, h2, h3⟩ := h
    rw [List.filter_cons, List.filter_cons]
    by_cases e : p.1 = k
    · have a : ¬ decide (p.1 ≠ k) = true := by simp [e]
      have b : ¬ decide (q.1 ≠ tk k) = true := by simp [← h1, e]
      rw [if_neg a, if_neg b]
      exact ih
    · have e' : ¬ q.1 = tk k := fun z => e (tk_inj (he p (List.mem_cons_self ..)) hk (h1.trans z))
      have a : decide (p.1 ≠ k) = true := by simp [e]
      have b : decide (q.1 ≠ tk k) = true := by simp [e']
      rw [if_pos a, if_pos b]
      exact .cons ⟨h1, h2, h3⟩ ih
theorem TabAt.have {P : Program} {w : World} {H : Hp} {h : Heap} {a : Addr} {es : List Ent} (T : TabAt P w H a es) (ok : HOk P w H h) : (a == sysModules) = false ∧ ∃ xs, EV es xs ∧ h.DictOfH (nestedKind P w) a xs := by
  obtain ⟨⟨hs, xs, o, ds, ep, r, h1, h2, h3, h4, h5⟩, _, _⟩ := (show ObjOk P w H h a (TabO P w a es) from ok a _ T.at_)
  refine ⟨hs, xs, r, o, ds, ep, h1, h2, h3, h4, ?_, h5⟩
  have all : ∀ {l : List Ent} {m : List (NestedKey × Addr × Value)}, EV l m → (∀ e ∈ l, keyOk e.1 = true ∧ H e.2.1 = some (.tup [.bl (isB e.1), e.1])) → ∀ x ∈ m, (nestedKind P w).is h x.1 x.2.1 := by
    intro l m q
    induction q with
    | nil => intro _ x hx; exact nomatch hx
    | @cons p q ps qs hq t ih =>
      intro hl x hx
      rcases List.mem_cons.mp hx with e | hx
      · subst e
        have := hl p (List.mem_cons_self ..)
        rw [← hq.1, ← hq.2.1]
        exact key_is ok this.1 this.2
      · exact ih (fun e m => hl e (List.mem_cons_of_mem _ m)) x hx
  exact all r T.keys
theorem tab_new {P : Program} {w : World} {H : Hp} {h : Heap} {a : Addr} {es : List Ent} {xs : List (NestedKey × Addr × Value)} (hs : (a == sysModules) = false) (r : EV es xs) (d : h.DictOfH (nestedKind P w) a xs) : ObjOk P w H h a (TabO P w a es) := by
  obtain ⟨o, ds, ep, h1, h2, h3, h4, _, h5⟩ := d
  exact ⟨⟨hs, xs, o, ds, ep, r, h1, h2, h3, h4, h5⟩, ⟨o, h1⟩, fun g1 g2 ⟨_, xs', o', ds', ep', r', k1, k2⟩ st => ⟨hs, xs', o', ds', ep', r', st _ k1, k2⟩⟩
theorem room_in1 {A : Around} (hu : A.units + 64 < cLine) {P : Program} {w : World} : (nestedKind P w).room A.in1 := by
  show A.in1.units + 8 < cLine
  have : A.in1.units = A.units + 1 := by first | rfl | simp [Around.in1]
  omega
/-! ### the rules -/
def KeyAt (H : Hp) (b : Addr) (k : V) : Prop := keyOk k = true ∧ H b = some (.tup [.bl (isB k), k])
theorem TabAt.put {P : Program} {w : World} {H : Hp} {a b : Addr} {es : List Ent} {k v : V} (T : TabAt P w H a es) (hk : KeyAt H b k) (hl : es.length < 1000000) : TabAt P w (upd H a (TabO P w a (putT es k b v))) a (putT es k b v) := by
  have ne : ∀ {c : Addr} {ys : List V}, H c = some (.tup ys) → c ≠ a := fun {c ys} e z => by
    rw [z, T.at_] at e
    cases e
  refine ⟨upd_same, fun e he => ?_, ?_⟩
  · have all : keyOk e.1 = true ∧ H e.2.1 = some (.tup [.bl (isB e.1), e.1]) := by
      unfold putT at he
      split at he
      · obtain ⟨e0, h0, e1⟩ := List.mem_map.mp he
        have := T.keys e0 h0
        split at e1
        · subst e1
          exact this
        · subst e1
          exact this
      · rcases List.mem_append.mp he with he | he
        · exact T.keys e he
        · rw [List.mem_singleton] at he
          subst he
          exact hk
    exact ⟨all.1, by rw [upd_ne (ne all.2)]; exact all.2⟩
  · unfold putT
    split
    · rw [List.length_map]
      exact T.len
    · rw [List.length_append, List.length_singleton]
      omega
theorem TabAt.drop {P : Program} {w : World} {H : Hp} {a : Addr} {es : List Ent} {k : V} (T : TabAt P w H a es) : TabAt P w (upd H a (TabO P w a (dropT es k))) a (dropT es k) := by
  have ne : ∀ {c : Addr} {ys : List V}, H c = some (.tup ys) → c ≠ a := fun {c ys} e z => by
    rw [z, T.at_] at e
    cases e
  refine ⟨upd_same, fun e he => ?_, Nat.le_trans (List.length_filter_le _ _) T.len⟩
  have := T.keys e (List.mem_filter.mp he).1
  exact ⟨this.1, by rw [upd_ne (ne this.2)]; exact this.2⟩
theorem TabAt.mono {P : Program} {w : World} {H H' : Hp} {a : Addr} {es : List Ent} (T : TabAt P w H a es) (h1 : H' a = H a) (h2 : ∀ c ys, H c = some (.tup ys) → H' c = some (.tup ys)) : TabAt P w H' a es :=
  ⟨h1.trans T.at_, fun e he => ⟨(T.keys e he).1, h2 _ _ (T.keys e he).2⟩, T.len⟩
theorem sz_ok {es : List Ent} {xs : List (NestedKey × Addr × Value)} (r : EV es xs) (h : es.length ≤ 1000000) : xs.length ≤ sizeLine := by
  rw [← Paired.length r, sizeLine_eq]
  omega
section
variable {X : Cx} {o i value : Expr} {pos pos' tpos : Pos} {td ty tv : TE}
def tTNew (P : Program) (w : World) : TE := fun _ H Q => ∀ p, H p = none → Q (.ref p) (upd H p (TabO P w p []))
def tTGet (P : Program) (w : World) (td ty : TE) : TE := fun σ H Q => td σ H fun x H1 => ty σ H1 fun y H2 => ∃ a b k es v, x = .ref a ∧ y = .ref b ∧ TabAt P w H2 a es ∧ KeyAt H2 b k ∧ valT es k = some v ∧ Q v H2
def tTIn (P : Program) (w : World) (ty td : TE) : TE := fun σ H Q => ty σ H fun y H1 => td σ H1 fun x H2 => ∃ a b k es, x = .ref a ∧ y = .ref b ∧ TabAt P w H2 a es ∧ KeyAt H2 b k ∧ Q (.bl (valT es k).isSome) H2
def sTPut (P : Program) (w : World) (td ty tv : TE) : TS := fun D σ H => tv σ H fun v H1 => td σ H1 fun x H2 => ty σ H2 fun y H3 => ∃ a b k es, x = .ref a ∧ y = .ref b ∧ TabAt P w H3 a es ∧ KeyAt H3 b k ∧ D.nx σ (upd H3 a (TabO P w a (putT es k b v)))
def sTDel (P : Program) (w : World) (td ty : TE) : TS := fun D σ H => td σ H fun x H1 => ty σ H1 fun y H2 => ∃ a b k es, x = .ref a ∧ y = .ref b ∧ TabAt P w H2 a es ∧ KeyAt H2 b k ∧ (valT es k).isSome = true ∧ D.nx σ (upd H2 a (TabO P w a (dropT es k)))
theorem pe_tnew : PE X (.Dict [] [] pos) (tTNew X.prog X.w) := ⟨fun pins s σ H Q I h =>
  wpAny_Dict_empty ⟨.ref s.heap.objs.size, _, I.laid (a := s.heap.objs.size) (o := TabO X.prog X.w s.heap.objs.size []) (t' := s.toks) (fun _ _ q => Heap.get?_push_of_some _ q) (Nat.le_refl _)
    (tab_new (beq_eq_false_iff_ne.mpr (Ne.symm (Nat.ne_of_lt I.big))) .nil (Heap.DictOfH.new _)), rfl, h _ (I.hok.fresh (Nat.le_refl _))⟩⟩
theorem pe_tget (hu : X.A.units + 64 < cLine) (ho : PE X o td) (hi : PE X i ty) (hs : NoSl i) : PE X (.Subscript o i pos) (tTGet X.prog X.w td ty) := by
  refine ⟨fun pins s σ H Q I h => ?_⟩
  refine subD_of PySem.F.slot_dict_getitem.lookup hs (thn (ho.run pins s σ H _ I h) fun u s1 ⟨x, H1, I1, rx, q1⟩ => thn (hi.run pins s1 σ H1 _ I1 q1) fun iv s2 ⟨y, H2, I2, ry, a, b, k, es, v, ex, ey, T, hk, hv, q2⟩ => ?_)
  subst ex ey
  obtain rfl : u = Value.ref a := rx
  obtain rfl : iv = Value.ref b := ry
  obtain ⟨hd, xs, r, dd⟩ := T.have I2.hok
  obtain ⟨w', hw, rw'⟩ := RelO.some_of (v := v) (o := (atKey xs (tk k)).map (·.2)) (by rw [← hv]; exact r.val hk.1 fun e m => (T.keys e m).1)
  obtain ⟨p, hp, hp2⟩ := Option.map_eq_some_iff.mp hw
  refine ⟨dd.typeIs, wpAny_getItem_heap (room_in1 hu) (key_is I2.hok hk.1 hk.2) dd hp ?_⟩
  rw [hp2]
  exact ⟨v, H2, I2.tok _, rw', q2⟩
theorem pc_tin (hu : X.A.units + 64 < cLine) (hi : PE X i ty) (ho : PE X o td) : PC X .In i o (tTIn X.prog X.w ty td) := by
  refine ⟨fun pins s σ H Q I h => ?_⟩
  refine thn (hi.run pins s σ H _ I h) fun iv s1 ⟨y, H1, I1, ry, q1⟩ => thn (ho.run pins s1 σ H1 _ I1 q1) fun u s2 ⟨x, H2, I2, rx, a, b, k, es, ex, ey, T, hk, q2⟩ => ?_
  subst ex ey
  obtain rfl : u = Value.ref a := rx
  obtain rfl : iv = Value.ref b := ry
  obtain ⟨hd, xs, r, dd⟩ := T.have I2.hok
  refine wpAny_in_heap (room_in1 hu) (key_is I2.hok hk.1 hk.2) hd dd ?_
  have q := (r.val hk.1 fun e m => (T.keys e m).1).isSome_eq
  rw [Option.isSome_map] at q
  rw [← q]
  exact ⟨.bl (valT es k).isSome, H2, I2.tok _, rfl, q2⟩
theorem ps_tput (hu : X.A.units + 64 < cLine) (ho : PE X o td) (hi : PE X i ty) (hv : PE X value tv) (hs : swapsWith value (some (.Subscript o i pos')) pos.line X.env = pure false) :
    PS X (.Assign [.Subscript o i pos'] value pos) (sTPut X.prog X.w td ty tv) := by
  refine ⟨fun pins s σ H D I h => ?_⟩
  refine wpAny_Assign_Subscript (thn (hv.run pins s σ H _ I h) fun r s1 ⟨v, H1, I1, rv, q1⟩ => thn (ho.run pins s1 σ H1 _ I1 q1) fun u s2 ⟨x, H2, I2, rx, q2⟩ => thn (hi.run pins s2 σ H2 _ I2 q2) fun iv s3 ⟨y, H3, I3, ry, a, b, k, es, ex, ey, T, hk, q3⟩ => ?_) hs
  subst ex ey
  obtain rfl : u = Value.ref a := rx
  obtain rfl : iv = Value.ref b := ry
  obtain ⟨hd, xs, rr, dd⟩ := T.have I3.hok
  refine wpAny_setItem_heap (hsz := sz_ok rr T.len) (room_in1 hu) (key_is I3.hok hk.1 hk.2) dd fun h' dd' hsb => ?_
  have he : ∃ q, h'.get? a = some q := let ⟨q, _, _, hq, _⟩ := dd'; ⟨q, hq⟩
  exact ⟨σ, _, d_write I3 (by rw [T.at_]; exact True.intro) hsb he (tab_new hd (rr.put hk.1 (fun e m => (T.keys e m).1) rv) dd'), q3⟩
theorem ps_tdel (hu : X.A.units + 64 < cLine) (ho : PE X o td) (hi : PE X i ty) : PS X (.Delete [.Subscript o i tpos] pos) (sTDel X.prog X.w td ty) := by
  refine ⟨fun pins s σ H D I h => ?_⟩
  refine wpAny_Delete (wpAny_deleteEach_cons (wpAny_delete_Subscript (thn (ho.run pins s σ H _ I h) fun u s1 ⟨x, H1, I1, rx, q1⟩ => thn (hi.run pins s1 σ H1 _ I1 q1) fun iv s2 ⟨y, H2, I2, ry, a, b, k, es, ex, ey, T, hk, hv, q2⟩ => ?_)))
  subst ex ey
  obtain rfl : u = Value.ref a := rx
  obtain rfl : iv = Value.ref b := ry
  obtain ⟨hd, xs, rr, dd⟩ := T.have I2.hok
  have he1 : ∀ e ∈ es, keyOk e.1 = true := fun e m => (T.keys e m).1
  obtain ⟨p, hp⟩ : ∃ p, atKey xs (tk k) = some p := by
    have q := (rr.val hk.1 he1).isSome_eq
    rw [Option.isSome_map, hv] at q
    exact Option.isSome_iff_exists.mp q.symm
  refine wpAny_delItem_heap (hsz := sz_ok rr T.len) (room_in1 hu) (key_is I2.hok hk.1 hk.2) hd dd hp fun h' dd' hsb => wpAny_deleteEach_nil ?_
  have he : ∃ q, h'.get? a = some q := let ⟨q, _, _, hq, _⟩ := dd'; ⟨q, hq⟩
  exact ⟨σ, _, d_write I2 (by rw [T.at_]; exact True.intro) hsb he (tab_new hd (rr.drop hk.1 he1) dd'), q2⟩
/-- len(d) -/
theorem call_len_tab : CallR X (.builtin "len") (fun vs H Q => ∃ a es, vs = [.ref a] ∧ TabAt X.prog X.w H a es ∧ Q (.int (es.length : Nat)) H) := by
  intro pins s σ H vs us Q I rv h
  obtain ⟨a, es, rfl, T, q⟩ := h
  obtain ⟨u, rfl, ru⟩ := rv.one
  obtain rfl : u = Value.ref a := ru
  obtain ⟨hd, xs, r, dd⟩ := T.have I.hok
  have hz := sz_ok r T.len
  refine call_len_dictH hd dd (by rw [sizeLine_eq] at hz; omega) ?_
  rw [← Paired.length r]
  exact ⟨.int _, H, I.tok _, ⟨_, rfl⟩, q⟩
end
end XT
/-! own text: the values of such a dict, as a list -/
namespace XT
open PySem PySem.Spec PyProof.Rows L2
def ViewO (d v : Addr) : HO := .ext fun h => h.IsValuesView v d
theorem EV.vals {es : List Ent} {xs : List (NestedKey × Addr × Value)} (r : EV es xs) : Vals (es.map (·.2.2)) (xs.map (·.2.2)) := by
  induction r with
  | nil => exact .nil
  | cons h t ih => exact .cons h.2.2 ih
section
variable {prog : Program} {w : World} {A : Around} {E : Value → Shared → Prop} {s : Shared}
theorem meets_vals (d : Addr) (hd : (d == sysModules) = false) :
    MeetsIn prog w (Builtin.«dict.values» ⟨[.ref d], []⟩) (fun _ R s => s.TypeIs (.ref d) "dict" ∧
      R (.ok (.ret (.ref s.heap.objs.size))) { s with heap := s.heap.push { cls := .type "dict_values", data := .fields #[.ref d] } }) :=
  .of_wp fun A R s ⟨hm, h⟩ => by
    refine wpAny_bind ?_
    unfold Builtin.Dict.noArgs
    refine wpAny_bind (wpAny_notOrdered_dict hm ?_)
    show wpAny _ _ (pure d) _ _ s
    refine wpAny_pure ?_
    show wpAny _ _ (Builtin.Dict.showsAll d >>= _) _ _ s
    unfold Builtin.Dict.showsAll
    rw [if_neg (by rw [hd]; exact Bool.false_ne_true)]
    refine wpAny_bind (wpAny_pure ?_)
    exact wpAny_bind (wpAny_newObj_type (wpAny_pure ⟨_, rfl, h⟩))
end
section
variable {X : Cx} {o : Expr} {to : TE} {apos cpos : Pos}
def tTVals (P : Program) (w : World) (to : TE) : TE := fun σ H Q => to σ H fun x H1 => ∃ a es, x = .ref a ∧ TabAt P w H1 a es ∧ ∀ v, H1 v = none → Q (.ref v) (upd H1 v (ViewO a v))
theorem pe_tvals (ho : PE X o to) (hbase : attributeBase o "values" X.env (eval o X.env) = eval o X.env := by rfl) (hline : (apos.endLine == cpos.line) = true := by rfl) : PE X (.Call (.Attribute o "values" apos) [] [] cpos) (tTVals X.prog X.w to) := by
  refine ⟨fun pins s σ H Q I h => ?_⟩
  refine wpAny_Call_method0_late hbase hline (thn (ho.run pins s σ H _ I h) fun v s1 ⟨x, H1, I1, r1, a, es, ex, T, q1⟩ => ?_)
  subst ex
  obtain rfl : v = Value.ref a := r1
  obtain ⟨hd, xs, r, dd⟩ := T.have I1.hok
  refine ⟨"dict", "dict.values", PySem.F.plainAttrs_dict, PySem.F.slot_dict_values, PySem.F.type_dict_values, dd.typeIs, fun b e => ?_, Calls.callWith_builtin rfl (PySem.evalArgs_none ?_)⟩
  · cases e
    obtain ⟨ob, _, _, h1, h2, _⟩ := dd
    exact ⟨ob, h1, h2.2.1⟩
  refine call_meetsIn PySem.F.slot_dict_values dd.typeIs PySem.F.entry_dict_values (PySem.F.args_dict_values_1 _) (meets_vals a hd) ⟨dd.typeIs, ?_⟩
  have hv : (s1.heap.push { cls := .type "dict_values", data := .fields #[.ref a] }).IsValuesView s1.heap.objs.size a := ⟨_, Heap.get?_push_size _ rfl, rfl, rfl⟩
  refine ⟨.ref s1.heap.objs.size, _, I1.laid (a := s1.heap.objs.size) (o := ViewO a s1.heap.objs.size) (t' := s1.toks) (fun _ _ q => Heap.get?_push_of_some _ q) (Nat.le_refl _) ?_, rfl, q1 _ (I1.hok.fresh (Nat.le_refl _))⟩
  exact ⟨hv, ⟨_, Heap.get?_push_size _ rfl⟩, fun g1 g2 ⟨ob, k1, k2⟩ st => ⟨ob, st _ k1, k2⟩⟩
/-- list(d.values()) -/
theorem call_list_vals (hc : X.calm = true) : CallR X (.type "list") (fun vs H Q => ∃ v a es, vs = [.ref v] ∧ H v = some (ViewO a v) ∧ TabAt X.prog X.w H a es ∧ ∀ l, H l = none → Q (.ref l) (upd H l (.lst (es.map (·.2.2))))) := by
  intro pins s σ H vs us Q I rv h
  obtain ⟨v, a, es, rfl, hv, T, q⟩ := h
  obtain ⟨u, rfl, ru⟩ := rv.one
  obtain rfl : u = Value.ref v := ru
  obtain ⟨hd, xs, r, ob, ds, ep, h1, h2, h3, h4, h5, h6⟩ := T.have I.hok
  obtain ⟨hview, _, _⟩ := (show ObjOk X.prog X.w H s.heap v (ViewO a v) from I.hok v _ hv)
  have hview : s.heap.IsValuesView v a := hview
  have hsz : ds.size = xs.length := by
    rw [← Array.length_toList, h4, List.length_map]
  have hz := sz_ok r T.len
  refine W.kdl_call PySem.KdlSrc.rawValues (I.ok.hd hc) ⟨hview, ob, h1, h2, h3⟩ (by omega) fun h' tk acc' c' hk hS hacc => ?_
  have ea : acc'.toList = xs.map (·.2.2) := by
    refine List.ext_getElem? fun j => ?_
    by_cases hj : j < ds.size
    · have hj' : j < acc'.size := by rw [hacc.1]; exact hj
      obtain ⟨hi, e⟩ := hacc.2 j acc'[j] (by rw [Array.getElem?_eq_getElem hj'])
      have e2 : ds.toList[j]? = (xs.map (entryOfKey (nestedKind X.prog X.w)))[j]? := by rw [h4]
      rw [List.getElem?_map, Array.getElem?_toList, Array.getElem?_eq_getElem hj] at e2
      rw [Array.getElem?_toList, Array.getElem?_eq_getElem hj', e, List.getElem?_map]
      cases hx : xs[j]? with
      | none => rw [hx] at e2; cases e2
      | some x =>
        rw [hx] at e2
        rw [Option.some.inj e2]
        rfl
    · rw [List.getElem?_eq_none (by rw [Array.length_toList, hacc.1]; omega), List.getElem?_eq_none (by rw [List.length_map]; omega)]
  refine ⟨.ref s.heap.objs.size, _, I.laid (t' := tk) hk (Nat.le_refl _) (show ObjOk X.prog X.w _ h' _ (.lst (es.map (·.2.2))) from ⟨?_, acc'.toList, c', ?_, ?_⟩), rfl, q _ (I.hok.fresh (Nat.le_refl _))⟩
  · rw [List.length_map, Paired.length r]
    exact hz
  · rw [ea]
    exact r.vals
  · rw [Array.toArray_toList]
    exact hS
end
end XT
/-! own text: an own exception with an __init__ of its own as a value that is kept -/
namespace XE
open PySem PySem.Spec PyProof.Rows L2
/-- the exception at a, of the class at C, its dict at d -/
structure ExAt (H : Hp) (a C d : Addr) (fs : List (Str × V)) : Prop where
  e : H a = some (exo a C (some d))
  d : H d = some (exd d fs)
def tMkE (C : Addr) (sp : Sp) (dvs : List V) (ta : TA) : TE := fun σ H Q => ta σ H fun vs H1 => vs.length ≤ 1000 ∧ ∀ a, H1 a = none → sp (.ref a :: (vs ++ dvs)) (upd H1 a (exo a C none)) (fun v H2 => v = .non ∧ Q (.ref a) H2) (fun _ _ _ => False)
section
variable {X : Cx} {e : Expr} {es : List Expr} {ta : TA} {te : TE} {p pos : Pos}
theorem pe_mkE {CX : CXT} {x : Str} {C fI : Addr} {k : Nat} {fd : FuncData} {ps : List Str} {sp : Sp} {ds : List Value} {dvs : List V} (T : OexC X.K C) (iC : PySem.W.findIn X.K (.ref C) "__init__" = some (some (.ref fI))) (tI : PySem.W.typeIn X.K (.ref fI) = some (.type "function"))
    (F1 : FnOk X.prog X.w X.K X.mg X.base CX k fI fd ps sp) (hr : Room (k + 1) X.A) (hb : Binds X.K fd ps ds) (hd : Vals dvs ds) (hx : Passes CX X (fun _ _ _ => False)) (hg : Gl X x) (hm : X.mg x = some (.ref C)) (ha : PA X (e :: es) ta)
    (hdb : (x == ("__debug__" : Str)) = false := by decide) (he : starEach (e :: es) X.env = (false, eval e X.env) :: starEach es X.env := by rfl) (hpl : (backTo pos (starEach es X.env)).any (·.1) = false := by rfl) :
    PE X (.Call (.Name x p) (e :: es) [] pos) (tMkE C sp dvs ta) := by
  refine ⟨fun pins s σ H Q I h => ?_⟩
  obtain ⟨nm, q, N, bs, bm, sn, sub, ab, col, dd, k0, k1, k2, k3, k5, hC, hbm⟩ := T.cls
  refine wpAny_Call_Name_kw (ld_glob I hg hm ?_ hdb)
  refine PySem.W.callWith_K (h₀ := X.base) I.ok.mod.kin T.kC (thn (ha.run pos pins s σ H _ I h) fun us s1 ⟨vs, H1, I1, r1, hz, q1⟩ => ⟨I1.kIn, ?_⟩) he hpl
  show wpAny _ _ (call (.ref C) us) _ _ _
  obtain ⟨hp, g, dr, tk, os⟩ := s1
  have hsz : hp.objs.size ≤ hp.objs.size + 1 := Nat.le_succ _
  have hn : H1 (hp.objs.size + 1) = none := I1.hok.fresh hsz
  have hq := q1 (hp.objs.size + 1) hn
  have kk : ∀ b o, hp.get? b = some o → ((hp.push (PySem.W.kdv_tup us)).push (PySem.HandSPX.excO C hp.objs.size)).get? b = some o := fun b o e => Heap.get?_push_of_some _ (Heap.get?_push_of_some _ e)
  have hget : ((hp.push (PySem.W.kdv_tup us)).push (PySem.HandSPX.excO C hp.objs.size)).get? (hp.objs.size + 1) = some (PySem.HandSPX.excO C hp.objs.size) := by heap_get
  have I2 : Inv X pins σ (upd H1 (hp.objs.size + 1) (exo (hp.objs.size + 1) C none)) ⟨(hp.push (PySem.W.kdv_tup us)).push (PySem.HandSPX.excO C hp.objs.size), g, dr, tk, os⟩ :=
    I1.laid (t' := tk) (a := hp.objs.size + 1) (o := exo (hp.objs.size + 1) C none) (h' := (hp.push (PySem.W.kdv_tup us)).push (PySem.HandSPX.excO C hp.objs.size)) kk hsz (exo_ok hget)
  have r2 : Vals (V.ref (hp.objs.size + 1) :: (vs ++ dvs)) (Value.ref (hp.objs.size + 1) :: (us ++ ds)) := .cons rfl (r1.append hd)
  have hl : (Value.ref (hp.objs.size + 1) :: us ++ ds).length = ps.length := by
    have e := r2.length
    rw [F1.len _ _ _ _ hq] at e
    exact e.symm
  have hus : us.length ≤ sizeLine := by
    rw [← Paired.length r1, sizeLine_eq]
    omega
  refine wpAny_call (PySem.HandSPX.call_own F.excBase_ValueError (fun Y => PySem.HandSPX.refsVE_contains Y bm hbm) (I1.kIn _ _ hC) (PySem.W.looks_findIn I1.kIn iC) (fun self => PySem.W.bind_fn I1.kIn self tI) hus
    (codeAny_mono (F1.run _ X.stack _ _ ⟨Value.ref (hp.objs.size + 1) :: us, []⟩ (Value.ref (hp.objs.size + 1) :: (us ++ ds)) _ _ (fun _ _ _ => False) (hr.make C us []) (I2.env0.make C us []) (hb _ (Value.ref (hp.objs.size + 1) :: us) I2.kIn hl) r2 hq) fun r s' hq' => ?_))
  cases r with
  | error er => exact hx pins σ _ _ er s' I2 hq'
  | ok fl =>
    cases fl with
    | ret u =>
      obtain ⟨v, H', I3, rv, ev, q3⟩ := I2.after hq'
      subst ev
      exact ⟨rv, ⟨V.ref (hp.objs.size + 1), H', I3, rfl, q3⟩⟩
    | next => exact False.elim hq'
    | brk => exact False.elim hq'
    | cont => exact False.elim hq'
/-- e.n -/
def tXo (C : Addr) (n : Str) (te : TE) : TE := fun σ H Q => te σ H fun x H1 => ∃ a d fs v, x = .ref a ∧ ExAt H1 a C d fs ∧ fs.lookup n = some v ∧ Q v H1
theorem pe_xo {C : Addr} {n : Str} (T : XfC X.K C) (hno : PySem.W.findIn X.K (.ref C) n = some none) (he : PE X e te) (hb : attributeBase e n X.env (eval e X.env) = eval e X.env := by rfl) : PE X (.Attribute e n pos) (tXo C n te) := by
  refine ⟨fun pins s σ H Q I h => ?_⟩
  refine attr_of hb (thn (he.run pins s σ H _ I h) fun u s1 ⟨x, H1, I1, rx, a, d, fs, v, ex, T1, l, q⟩ => ?_)
  subst ex
  obtain rfl : u = Value.ref a := rx
  obtain ⟨t1, hoe⟩ := exo_at I1.hok T1.e
  obtain ⟨mA, hns, hr⟩ := exd_at I1.hok T1.d
  obtain ⟨od, ho, hl⟩ := lookIn_ns hns
  obtain ⟨u, hu, ru⟩ := RelO.some_of (v := v) (o := mA n) (by rw [← l]; exact hr n)
  have J : PySem.W.InstAt s1.heap a _ C (some od) := ⟨hoe, rfl, rfl, ho⟩
  exact HandSPX.exc_get I1.kIn J T.ga T.gg T.exC (PySem.W.findObj_own T.hdC hno rfl (by rw [hl, hu])) (handed_of ru) ⟨v, H1, I1.tok _, ru, q⟩
/-- isinstance(e, c) -/
theorem call_isEO {D : Addr} (C : ExcC X.K D) : CallR X (.builtin "isinstance") (fun xs H Q => ∃ a d fs c cv b, xs = [.ref a, c] ∧ ExAt H a D d fs ∧ (∀ u, RelV c u → u = cv) ∧ PySem.W.kitOne X.K (.ref D) cv = some b ∧ Q (.bl b) H) := by
  intro pins s σ H xs us Q I r h
  obtain ⟨a, d, fs, c, cv, b, rfl, T1, hcv, e, q⟩ := h
  cases r with
  | cons rx rr =>
    cases rr with
    | cons rt rr =>
      cases rr
      cases rx
      have ec := hcv _ rt
      subst ec
      obtain ⟨t1, hoe⟩ := exo_at I.hok T1.e
      obtain ⟨mA, hns, hr⟩ := exd_at I.hok T1.d
      obtain ⟨od, ho, hl⟩ := lookIn_ns hns
      have J : PySem.W.InstAt s.heap a _ D (some od) := ⟨hoe, rfl, rfl, ho⟩
      exact PySem.W.kia_one (PySem.W.xs_kitx C.hg C.hk C.hs C.hd C.ha C.hn C.ht C.hm) I.kIn J e (fun z => nomatch z) fun tk => ⟨.bl b, H, I.kept (t' := tk) fun _ _ z => z, rfl, q⟩
end
end XE
/-! own text: del xs[lo:hi] of a list -/
namespace XD
open PySem PySem.Spec PyProof.Rows L2
open Sem (wp)
theorem keep_out {α : Type} (sel : Nat → Bool) (a c : Nat) (hs : ∀ k, sel k = (decide (a ≤ k) && decide (k < c))) : ∀ (xs : List α) (n : Nat),
    (xs.zipIdx n).filterMap (fun p => if sel p.2 = true then none else some p.1) = xs.take (a - n) ++ xs.drop (max (c - n) (a - n))
  | [], n => by simp
  | x :: xs, n => by
    rw [List.zipIdx_cons, List.filterMap_cons, keep_out sel a c hs xs (n + 1)]
    have hsn := hs n
    by_cases h1 : a ≤ n
    · by_cases h2 : n < c
      · rw [show sel n = true by rw [hsn]; simp [h1, h2]]
        rw [show a - n = 0 by omega, show a - (n + 1) = 0 by omega]
        simp only [if_true, List.take_zero, List.nil_append]
        rw [show max (c - n) 0 = max (c - (n + 1)) 0 + 1 by omega, List.drop_succ_cons]
      · rw [show sel n = false by rw [hsn]; simp [h2]]
        rw [show a - n = 0 by omega, show a - (n + 1) = 0 by omega]
        simp only [List.take_zero, List.nil_append]
        rw [show max (c - n) 0 = 0 by omega, show max (c - (n + 1)) 0 = 0 by omega]
        simp
    · rw [show sel n = false by rw [hsn]; simp [h1]]
      simp only
      rw [show a - n = (a - (n + 1)) + 1 by omega, List.take_succ_cons, show max (c - n) (a - (n + 1) + 1) = max (c - (n + 1)) (a - (n + 1)) + 1 by omega, List.drop_succ_cons]
      rfl
section
variable {prog : Program} {w : World} {A : Around} {E : Value → Shared → Prop} {s : Shared}
set_option maxRecDepth 100000 in
theorem delItem_cut {l sl : Addr} {its : Array Value} {n : Nat} {vl vu : Value} {lo hi : Option Int} {a c : Nat} {Q : Unit → Shared → Prop}
    (e : s.heap.get? l = some { cls := .type "list", data := .seq its n }) (hs : s.heap.IsSliceOf sl vl vu .none) (pl : IsPart vl lo) (pu : IsPart vu hi) (hb : sliceBounds lo hi none its.size = ((a : Int), (c : Int), 1))
    (hz : its.size ≤ sizeLine) (h : ∀ f : Array Value → Array Value, f its = (its.toList.take a ++ its.toList.drop (max c a)).toArray → Q () { s with heap := s.heap.update l (Obj.mapSeq f) }) :
    wpAny (model prog w) A (delItem (.ref l) (.ref sl)) Q E s := by
  have tl : s.TypeIs (.ref l) "list" := ⟨_, e, rfl⟩
  obtain ⟨os, hos, hcs, hds⟩ := id hs
  have ts : s.TypeIs (.ref sl) "slice" := ⟨os, hos, hcs⟩
  have one : ¬ ((rawPart none == rawInt 0) = true) := Bool.false_ne_true
  refine wpAny_delItem_slot tl (by decide) F.slot_list_delitem (wpAny_call_entry F.slot_list_delitem tl F.entry_list_delitem ?_ (F.args_list_delitem_2 _ _))
  show wpAny _ _ (Builtin.List.listSubscript? (.ref sl) >>= _) _ _ s
  refine wpAny_bind ?_
  unfold Builtin.List.listSubscript?
  refine wpAny_bind (wpAny_specialOf ts slice_no_index ?_)
  simp only [Option.isNone_none, if_true]
  refine wpAny_pure ?_
  show wpAny _ _ (typeOf (.ref sl) >>= _) _ _ s
  refine wpAny_bind (wpAny_typeOf ts ?_)
  first
    | rw [if_neg (by decide)]
    | refine PySem.W.KFB.if_not (by decide) ?_
  rw [listSliceParts_eq]
  refine wpAny_bind (wpAny_bind (wpAny_field hos hds (x := .none) rfl (wpAny_bind (wpAny_listPart .none ?_))))
  rw [if_neg one]
  refine wpAny_bind (wpAny_field hos hds (x := vl) rfl (wpAny_bind (wpAny_listPart pl ?_)))
  refine wpAny_bind (wpAny_field hos hds (x := vu) rfl (wpAny_bind (wpAny_listPart pu (wpAny_pure ?_))))
  unfold Builtin.List.listItems
  refine wpAny_bind (wpAny_bind (wpAny_seqItems e rfl (wpAny_pure ?_)))
  refine wpAny_bind (wpAny_of_eq ((sliceIndices_raw lo hi none its.size (by simp)).trans (congrArg (pure : Int × Int × Int → Sem (Int × Int × Int)) hb)) ?_)
  refine wpAny_bind (wpAny_rule ?_)
  unfold Builtin.List.listUpdate
  have cut : ∀ sel : Nat → Bool, (∀ k, sel k = (decide (a ≤ k) && decide (k < c))) → (its.toList.zipIdx.filterMap fun p => if sel p.2 = true then none else some p.1).toArray = (its.toList.take a ++ its.toList.drop (max c a)).toArray := fun sel hsel => by
    rw [keep_out sel a c hsel its.toList 0]
    rfl
  have hsel : ∀ k : Nat, (if (1 : Int) > 0 then (decide ((a : Int) ≤ k) && decide ((k : Int) < c) && ((k : Int) - a) % 1 == 0) else (decide ((c : Int) < k) && decide ((k : Int) ≤ a) && ((a : Int) - k) % (-1) == 0)) = (decide (a ≤ k) && decide (k < c)) := fun k => by
    rw [if_pos (by decide)]
    simp
  have hcut := cut (fun k => if (1 : Int) > 0 then (decide ((a : Int) ≤ k) && decide ((k : Int) < c) && ((k : Int) - a) % 1 == 0) else (decide ((c : Int) < k) && decide ((k : Int) ≤ a) && ((a : Int) - k) % (-1) == 0)) hsel
  refine wpAny_bind (wpAny_updateSeq (hz := hz) (_hz' := ?z) e rfl (wpAny_bind (wpAny_letGo ?_)))
  · exact wpAny_pure ⟨.none, rfl, h _ hcut⟩
  case z =>
    refine Nat.le_trans (Nat.le_of_eq (congrArg Array.size hcut)) ?_
    rw [List.size_toArray, List.length_append, List.length_take, List.length_drop, Array.length_toList]
    omega
end
variable {X : Cx} {o : Expr} {to : TE} {lo hi : Option Expr} {tl th : TO} {tpos p2 pos : Pos}
theorem ps_delS (ho : PE X o to) (hl : PO X lo tl) (hu : PO X hi th) : PS X (.Delete [.Subscript o (.Slice lo hi none p2) tpos] pos)
    (fun D σ H => to σ H fun x H1 => tl σ H1 fun i H2 => th σ H2 fun j H3 => ∃ (l : Addr) (xs : List V) (a c : Nat), x = .ref l ∧ H3 l = some (.lst xs) ∧ sliceBounds i j none xs.length = ((a : Int), (c : Int), 1) ∧ D.nx σ (upd H3 l (.lst (xs.take a ++ xs.drop (max c a))))) := by
  refine ⟨fun pins s σ H D I h => ?_⟩
  refine wpAny_Delete (wpAny_deleteEach_cons (wpAny_delete_Subscript (thn (ho.run pins s σ H _ I h) fun v s1 ⟨x, H1, I1, rx, q1⟩ => ?_)))
  refine wpAny_Slice (thn (hl.run pins s1 σ H1 _ I1 q1) fun vl s2 ⟨i, H2, I2, pl, q2⟩ => thn (hu.run pins s2 σ H2 _ I2 q2) fun vu s3 ⟨j, H3, I3, pu, l, xs, a, c, ex, hH, hb, q⟩ => ?_)
  rw [evalPart_none]
  refine wpAny_pure ?_
  subst ex
  cases (show v = Value.ref l from rx)
  have I4 : Inv X pins σ H3 { s3 with heap := s3.heap.push { cls := .type "slice", data := .fields #[vl, vu, .none] } } := I3.kept (t' := s3.toks) fun b ob q => Heap.get?_push_of_some _ q
  obtain ⟨z, its, n, r, hlen, e⟩ := I4.lstM hH
  have hz : its.toArray.size ≤ sizeLine := by rw [List.size_toArray]; omega
  refine delItem_cut e (Heap.IsSliceOf.new ..) pl pu (a := a) (c := c) (by rw [List.size_toArray, ← hlen]; exact hb) hz fun f hf => ?_
  refine wpAny_deleteEach_nil ⟨σ, _, ?_, q⟩
  refine I4.lset (its' := its.take a ++ its.drop (max c a)) (t' := s3.toks) hH e hf (Vals.append (r.take _) (r.drop _)) ?_
  rw [List.length_append, List.length_take, List.length_drop]
  omega
end XD
/-! own text: list(x) of a text -/
namespace XL
open PySem PySem.Spec PyProof.Rows L2 PySem.W
open Sem (wp)
section
variable {prog : Program} {w : World} {A : Around} {E : Value → Shared → Prop} {s : Shared} {x : Str} {t : Tok}
theorem hint_text {Q : Bool → Shared → Prop} (h : Q false s) : wpAny (model prog w) A (Builtin.List.listLengthHint (.str x t)) Q E s := by
  have hT : s.TypeIs (.str x t) "str" := typeIs_str s x t
  unfold Builtin.List.listLengthHint
  refine wpAny_bind (wpAny_specialOf hT PySem.F.slot_str_len.lookup ?_)
  generalize hid : ("str.__len__" : String) = id1
  wp_delta
  rw [show splitId id1 = some ("str", "__len__") from by subst hid; decide +kernel]
  subst hid
  refine wpAny_bind (wpAny_isInstance (T := "str") (b := true) hT (by rw [isSubtype_type]; kernel_rfl) ?_)
  refine wpAny_ite_split (fun hab => absurd hab (by decide)) (fun _ => ?_)
  refine wpAny_ite_split (fun _ => ?_) (fun hab => absurd (by decide +kernel) hab)
  exact wpAny_bind (wpAny_typeOf hT (wpAny_pure h))
/-- the iterator that a text gives, whichever -/
theorem iter_text (hh : A.handled = none) : ∃ (oI : Obj) (W : Nat → Heap → Prop), (∀ (E : Value → Shared → Prop) (Q : Value → Shared → Prop), Q (.ref s.heap.objs.size) { s with heap := s.heap.push oI } → wpAny (model prog w) A (pyIter (.str x t)) Q E s) ∧
    Walks prog w A s.heap.objs.size [s.heap.objs.size] [s.heap.objs.size] x.cps.size (SignAt x) W ∧ W 0 (s.heap.push oI) := by
  cases ha : x.cps.all (· < 128)
  · exact ⟨_, _, fun E Q q => wpAny_pyIter_wide ha q, Walks.strWide hh _ x t, ⟨_, Heap.get?_push_size _ rfl, rfl, rfl⟩⟩
  · exact ⟨_, _, fun E Q q => wpAny_pyIter_ascii ha q, Walks.strAscii hh _ x t, ⟨_, Heap.get?_push_size _ rfl, rfl, rfl⟩⟩
theorem fill_text {R : Result → Shared → Prop} (hh : A.handled = none) (L : Addr) (res : Value) (c0 : Nat) (hL : s.heap.get? L = some { cls := .type "list", data := .seq #[] c0 }) (hn : x.cps.size ≤ sizeLine)
    (hR : ∀ h' tk acc c, (∀ b o, b ≠ L → s.heap.get? b = some o → h'.get? b = some o) → h'.get? L = some { cls := .type "list", dict := none, data := .seq acc c, slots := #[] } → ItemsOf (SignAt x) acc x.cps.size → R (.ok (.ret res)) { s with heap := h', toks := tk }) :
    wpAny (model prog w) A.in1 (Builtin.List.listExtendWith (.ref L) (.str x t) res)
      (fun fin s' => match fin with | .done f => R (.ok f) s' | .again c' => c'.quiet = true ∧ codeAny (model prog w) A c' R s') (fun e s' => R (.error e) s') s := by
  have hLI : L ≠ s.heap.objs.size := Nat.ne_of_lt (Heap.lt_size hL)
  have hLf : L ∉ [s.heap.objs.size] := by simpa using hLI
  obtain ⟨oI, St, hit, W, st⟩ := iter_text (prog := prog) (w := w) (A := A.in1) (s := s) (x := x) (t := t) hh
  have go : ∀ (h : Heap) (c1 tk : Nat), St 0 h → (∀ b o, b ≠ L → s.heap.get? b = some o → h.get? b = some o) → h.get? L = some { cls := .type "list", data := .seq #[] c1 } →
      codeAny (model prog w) A (.builtin "list.extend.loop" ⟨[.ref L, .ref s.heap.objs.size, res], []⟩) R { s with heap := h, toks := tk } := fun h c1 tk hst hk hL1 => by
    refine codeAny_extend_loopS W.toS hn L hLf res x.cps.size 0 _ #[] c1 rfl (Nat.zero_le _) hst hL1 (ItemsOf.nil _) fun s2 acc c hm hL2 hacc => ?_
    rw [Moved.eq_with hm]
    refine hR s2.heap s2.toks acc c (fun b o hb e => hm.heap b o (fun z => ?_) (hk b o hb e)) hL2 hacc
    rcases List.mem_cons.mp z with z | z
    · exact hb z
    · exact absurd (Heap.lt_size e) (by rw [List.mem_singleton.mp z]; exact Nat.lt_irrefl _)
  have hT : s.TypeIs (.str x t) "str" := typeIs_str s x t
  unfold Builtin.List.listExtendWith
  refine wpAny_bind (wpAny_typeOf (T := "str") hT ?_)
  have k1 : Builtin.List.listSameRef (.ref L) (.str x t) = false := rfl
  have k2 : (Value.type "str" == Value.type "list") = false := by decide
  have k3 : (Value.type "str" == Value.type "tuple") = false := by decide
  simp only [k1, k2, k3, Bool.or_false, Bool.false_eq_true, if_false]
  refine wpAny_bind (hit _ _ ?_)
  have g1 := Heap.get?_push_of_some oI hL
  refine wpAny_bind (wpAny_holding (hint_text ?_))
  refine wpAny_ite_split (fun _ => ?_) (fun _ => wpAny_pure ⟨plainId_quiet PySem.F.plain_extend_loop _, go _ c0 _ st (fun b o _ e => Heap.get?_push_of_some _ e) g1⟩)
  refine wpAny_bind (wpAny_rule (wpAny_bind ?_))
  show wpAny _ _ (updateSeq L (·.push .none) >>= fun _ => updateSeq L (·.pop)) _ _ _
  refine wpAny_bind (wpAny_updateSeq g1 rfl ?_)
  have g2 := Heap.get?_update_self (Obj.mapSeq (·.push Value.none)) g1 rfl
  refine wpAny_updateSeq (hz := by seq_fits) g2 rfl ?_
  have g3 := Heap.get?_update_self (Obj.mapSeq (·.pop)) g2 rfl
  refine wpAny_pure ⟨plainId_quiet PySem.F.plain_extend_loop _, go _ _ _ (W.frame 0 _ _ st fun b hb o e => ?_) (fun b o hb e => ?_) g3⟩
  · have hbL : L ≠ b := fun z => hLf (z ▸ hb)
    exact (Heap.get?_update_other _ _ hbL).trans ((Heap.get?_update_other _ _ hbL).trans e)
  · exact (Heap.get?_update_other _ _ (Ne.symm hb)).trans ((Heap.get?_update_other _ _ (Ne.symm hb)).trans (Heap.get?_push_of_some _ e))
theorem call_text {Q : Value → Shared → Prop} (hh : A.handled = none) (hn : x.cps.size ≤ sizeLine)
    (hQ : ∀ h' tk acc c, (∀ b o, s.heap.get? b = some o → h'.get? b = some o) → h'.get? s.heap.objs.size = some { cls := .type "list", dict := none, data := .seq acc c, slots := #[] } → ItemsOf (SignAt x) acc x.cps.size → Q (.ref s.heap.objs.size) { s with heap := h', toks := tk }) :
    wpAny (model prog w) A (call (.type "list") [.str x t]) Q E s := by
  refine callType_codes (Q₁ := fun ob s1 => ob = .ref s.heap.objs.size ∧ s1 = { s with heap := s.heap.push { cls := .type "list", data := .seq #[] } }) PySem.F.called_list (PySem.F.typeCall_list_1 _) PySem.F.entry_list_init
    (code_list_new _ ⟨rfl, rfl⟩) fun ob s1 h1 => ?_
  obtain ⟨rfl, rfl⟩ := h1
  have hL : (s.heap.push { cls := .type "list", data := .seq #[] }).get? s.heap.objs.size = some { cls := .type "list", data := .seq #[] } := Heap.get?_push_size _ rfl
  refine ⟨⟨_, hL, rfl⟩, PySem.F.args_list_init_2 _ _, ?_⟩
  show wpAny _ _ (do let old ← Builtin.List.listItems (.ref s.heap.objs.size); Builtin.List.listUpdate (.ref s.heap.objs.size) (fun _ => #[]); letGo old.toList.reverse; Builtin.List.listExtendWith (.ref s.heap.objs.size) (.str x t) .none) _ _ _
  refine wpAny_bind ?_
  unfold Builtin.List.listItems
  refine wpAny_bind (wpAny_seqItems hL rfl (wpAny_pure ?_))
  show wpAny _ _ (updateSeq s.heap.objs.size (fun _ => #[]) >>= fun _ => letGo (#[] : Array Value).toList.reverse >>= fun _ => Builtin.List.listExtendWith (.ref s.heap.objs.size) (.str x t) .none) _ _ _
  refine wpAny_bind (wpAny_updateSeq hL rfl ?_)
  have g2 := Heap.get?_update_self (Obj.mapSeq (fun _ => (#[] : Array Value))) hL rfl
  refine wpAny_bind (wpAny_letGo ?_)
  refine fill_text (A := A.in1) hh s.heap.objs.size .none _ g2 hn fun h' tk acc c hk hL2 hacc => ⟨rfl, hQ h' tk acc c (fun b o e => ?_) hL2 hacc⟩
  have hb : b ≠ s.heap.objs.size := Nat.ne_of_lt (Heap.lt_size e)
  exact hk b o hb ((Heap.get?_update_other _ _ (Ne.symm hb)).trans (Heap.get?_push_of_some _ e))
end
/-- the signs of a text, as texts -/
def signs (x : Str) : List Str := x.cps.toList.map fun c => ⟨#[c]⟩
theorem call_list_text {X : Cx} (hc : X.calm = true) : CallR X (.type "list") (fun xs H Q => ∃ x, xs = [.str x] ∧ x.length ≤ sizeLine ∧ ∀ l, H l = none → Q (.ref l) (upd H l (.lst ((signs x).map V.str)))) := by
  intro pins s σ H xs us Q I r h
  obtain ⟨x, rfl, hz, q⟩ := h
  obtain ⟨u, rfl, t, rfl⟩ := vals1 r
  have hz' : x.cps.size ≤ sizeLine := hz
  refine call_text (I.ok.hd hc) hz' fun h' tk acc c hk hL hacc => ?_
  refine ⟨.ref s.heap.objs.size, _, I.laid hk (Nat.le_refl _) (show ObjOk X.prog X.w _ h' _ (.lst ((signs x).map V.str)) from ⟨?_, acc.toList, c, ?_, ?_⟩), rfl, q _ (I.hok.fresh (Nat.le_refl _))⟩
  · rw [List.length_map]; unfold signs; rw [List.length_map, Array.length_toList]; exact hz'
  · refine vals_of_at (by rw [List.length_map]; unfold signs; rw [List.length_map, Array.length_toList, Array.length_toList, hacc.1]) fun j v u h1 h2 => ?_
    obtain ⟨cc, tt, e1, e2⟩ := hacc.2 j u (by rw [← Array.getElem?_toList]; exact h2)
    rw [List.getElem?_map] at h1
    unfold signs at h1
    rw [List.getElem?_map, Array.getElem?_toList, e1] at h1
    cases h1
    exact ⟨tt, e2⟩
  · simpa using hL
end XL
namespace XQ
open PySem PySem.Spec PyProof.Rows L2 CwR PySem.StrLaws
section
variable {P : Program} {w : World} {K : PySem.W.Frag} {mg : Str → Option Value} {base : Heap}
/-- as Fun.ok; a token is out when the body begins -/
theorem okT {x qual : Str} {st : Stmt} {f : Addr} {fd : FuncData} {N ps : List Str} {k : Nat} {sp : Sp} (F : Fun K x qual st f fd) (S : FnScope N ps (defScope st)) (hnc : ∀ y ∈ (defScope st).names, y.2 ≠ .cell) (hps : 1 ≤ ps.length) (len : ∀ vs H Q E, sp vs H Q E → vs.length = ps.length)
    (hbody : ∀ (cdv : Value) (A : Around) (outer : List Env) (s : Shared) (H : Hp) (vs : List V) (Q : VK) (E : XK), Room k (A.deeper (envOfC qual (defScope st) s.heap.objs.size f cdv)) → sp vs H Q E →
      ∃ t, PSsT (cxOf CX0 P w K mg base N qual (defScope st) f cdv A outer s H E) (defBody st) t ∧ t { nx := fun _ H' => Q .non H', rt := Q } (start N vs) H) : FnOk P w K mg base CX0 (k + 1) f fd ps sp := by
  obtain ⟨oc, od, kV, doc, pm, an, cdv, ct, osl, rfl, lk, hcd⟩ := F.ex
  exact fn_ofT lk hcd S hnc hps len fun A outer s H vs Q E hr hsp => hbody cdv A outer s H vs Q E hr hsp
end
section
variable {X : Cx}
theorem pst_set {i : Nat} {x : Str} {e : Expr} {te : TE} {pos pos' : Pos} (hN : X.N.Nodup) (hi : X.N[i]? = some x) (hx : Loc X.env.scope x) (he : PET X e te) (hs : swapsWith e (some (.Name x pos')) pos.line X.env = pure false := by rfl) (hf : X.fn x = true ∨ X.env.scope.names.lookup x = some .local := by first | exact .inl rfl | exact .inr rfl | assumption) :
    PST X (.Assign [.Name x pos'] e pos) (tAsg te (gName i)) := by
  intro pins s σ H D h0 I h
  refine wpAny_Assign_Name (thn (he pins s σ H _ h0 I h) fun v s1 ⟨y, H1, I1, r1, q1⟩ => ?_) hs
  exact store_ok I1 hN hi hx r1 (fun s2 I2 => ⟨_, H1, I2, q1⟩) hf
end
/-- a text as it is quoted -/
def qText (x : Str) : Str := ("\"" : Str) ++ Txt.replace (Txt.replace (Txt.replace x "\\" "\\\\") "\"" "\\\"") "\n" "\\n" ++ ("\"" : Str)
def escC (c : Nat) : List Nat := if c = 92 then [92, 92] else if c = 34 then [92, 34] else if c = 10 then [92, 110] else [c]
theorem repl_one (c : Nat) (z : List Nat) : ∀ l : List Nat, replL [c] z l = l.flatMap fun d => if d = c then z else [d]
  | [] => replL_nil
  | d :: r => by
    by_cases h : d = c
    · subst h
      rw [replL_hit (by simp) (by simp), List.flatMap_cons, if_pos rfl, ← repl_one d z r]
      rfl
    · rw [replL_miss (by simpa using h), List.flatMap_cons, if_neg h, ← repl_one c z r]
      rfl
theorem qText_list (x : Str) : (qText x).cps.toList = 34 :: (x.cps.toList.flatMap escC ++ [34]) := by
  have app : ∀ a b : Str, (a ++ b).cps.toList = a.cps.toList ++ b.cps.toList := fun a b => by
    show (a.cps ++ b.cps).toList = _
    rw [Array.toList_append]
  unfold qText
  rw [app, app, replace_list (by decide +kernel), replace_list (by decide +kernel), replace_list (by decide +kernel)]
  rw [show (("\n" : Str)).cps.toList = [10] by decide +kernel, show (("\\n" : Str)).cps.toList = [92, 110] by decide +kernel, show (("\"" : Str)).cps.toList = [34] by decide +kernel, show (("\\\"" : Str)).cps.toList = [92, 34] by decide +kernel, show (("\\" : Str)).cps.toList = [92] by decide +kernel, show (("\\\\" : Str)).cps.toList = [92, 92] by decide +kernel]
  rw [repl_one, repl_one, repl_one, List.flatMap_assoc, List.flatMap_assoc]
  show 34 :: ([] ++ _ ++ _) = _
  rw [List.nil_append]
  congr 3
  funext d
  unfold escC
  by_cases h1 : d = 92
  · subst h1; rfl
  · by_cases h2 : d = 34
    · subst h2; rfl
    · by_cases h3 : d = 10
      · subst h3; rfl
      · simp [h1, h2, h3]
end XQ
namespace PySem
set_option maxHeartbeats 2000000 in
theorem XE_meets_enum1 {v : Value} {o : Obj} {H : Heap → Prop} (B : Begins v o H) :
    Meets (Builtin.«enumerate.__new__» ⟨[.type "enumerate", v], []⟩) (fun _ R s => H s.heap ∧
      R (.ok (.ret (.ref (s.heap.push o).objs.size))) { s with heap := (s.heap.push o).push { cls := .type "enumerate", data := .fields #[.none, .bool false, .ref s.heap.objs.size, rawInt 0, .none, .none] } }) :=
  .of_wp fun prog w A R s h => by
    obtain ⟨hp, g, d, tk, os⟩ := s; obtain ⟨h1, h⟩ := h
    have hsub := sub_enumerate
    have q1 : ∀ {A' : Around} {E : Value → Shared → Prop} {Q : Value → Shared → Prop}, Q (.ref hp.objs.size) ⟨hp.push o, g, d, tk, os⟩ → wpAny (model prog w) A' (pyIter v) Q E ⟨hp, g, d, tk, os⟩ :=
      fun q => B.iter prog w _ _ ⟨hp, g, d, tk, os⟩ _ h1 q
    wp_walk using q1
    refine wpAny_stack_any fun st => wpAny_pure ?_
    split
    · rename_i c _ _ _ _ _
      cases (c == Value.type "enumerate")
      · wp_walk using q1
        exact ⟨_, rfl, h⟩
      · wp_walk using q1
        exact ⟨_, rfl, h⟩
    · wp_walk using q1
      exact ⟨_, rfl, h⟩
section
variable {prog : Program} {w : World} {A : Around} {E : Value → Shared → Prop} {s : Shared}
theorem XE_enum_begins {v : Value} {o : Obj} {H : Heap → Prop} {Q : Value → Shared → Prop} (B : Begins v o H) (h1 : H s.heap)
    (h : ∀ h', IsEnum h' (s.heap.objs.size + 1) s.heap.objs.size 0 .none → h'.get? s.heap.objs.size = some o → h'.objs.size = s.heap.objs.size + 2 →
      (∀ b o, s.heap.get? b = some o → h'.get? b = some o) → Q (.ref (s.heap.objs.size + 1)) { s with heap := h' }) :
    wpAny (model prog w) A (call (.type "enumerate") [v]) Q E s := by
  refine callType_new F.called_enumerate (by decide) (F.typeCall_enumerate_1 _) (F.newCall_enumerate_1 _) (fun obj => F.args_object_init_2 obj _) F.entry_enumerate_new
    (XE_meets_enum1 B) ⟨h1, ?_⟩
  have hz : (s.heap.push o).objs.size = s.heap.objs.size + 1 := Heap.size_push ..
  show _ ∧ _
  rw [hz]
  have he : IsEnum ((s.heap.push o).push { cls := .type "enumerate", data := .fields #[.none, .bool false, .ref s.heap.objs.size, rawInt 0, .none, .none] }) (s.heap.objs.size + 1) s.heap.objs.size 0 .none := by
    have := Heap.get?_push_size (s.heap.push o) (o := { cls := .type "enumerate", data := .fields #[.none, .bool false, .ref s.heap.objs.size, rawInt 0, .none, .none] }) rfl
    rw [hz] at this; exact this
  refine ⟨⟨_, he, rfl⟩, h _ he (Heap.get?_push_of_some _ (Heap.get?_push_size _ B.free)) (by rw [Heap.size_push, hz]) fun b o x => Heap.get?_push_of_some _ (Heap.get?_push_of_some _ x)⟩
end
end PySem
namespace L2
open PySem PySem.Spec PyProof.Rows
/-- the tuple at a, each item in a new pair -/
def IteT (K : PySem.W.Frag) (a : Addr) : It :=
  ⟨fun i H => ∃ (xs : List V) (x : V), SqT K H a xs ∧ xs[i]? = some x, fun i H v H' => ∃ T x, v = .ref T ∧ H T = none ∧ H' = upd H T (.tup [.int (i : Nat), x]) ∧ ∀ xs, SqT K H a xs → xs[i]? = some x, fun i H => ∃ xs : List V, SqT K H a xs ∧ xs.length ≤ i⟩
theorem in1_handled {A : Around} (h : A.handled = none) : A.in1.handled = none := h
theorem turn_enumT {P : Program} {w : World} {K : PySem.W.Frag} {elts : List Expr} {kk : Nat} {tpos : Pos} (a e it : Addr) :
    Turn P w K (.Tuple elts kk tpos) (IteT K a) [e, it] e (fun i h => (∃ old, IsEnum h e it ((i : Nat) : Int) old) ∧ h.IsTupleIter it a i ∧ e ≠ it) where
  mem := by simp
  obj := fun i h st b hb => by
    obtain ⟨⟨old, he⟩, ⟨o, ho, hc, hd⟩, _⟩ := st
    have e' : b = e ∨ b = it := by simpa using hb
    rcases e' with z | z
    · rw [z]; exact ⟨_, he, fun v q => nomatch q⟩
    · rw [z]; exact ⟨o, ho, fun v q => by rw [hd] at q; cases q⟩
  keep := fun i h h' st k => let ⟨⟨old, he⟩, hi, hne⟩ := st; ⟨⟨old, k e (by simp) _ he⟩, hi.at fun o q => k it (by simp) o q, hne⟩
  item := by
    intro X hP hw hK hc i pins s σ H E I hf st hg
    subst hP hw hK
    obtain ⟨⟨old, he⟩, hit, hne⟩ := st
    obtain ⟨xs, x, hq, hx⟩ := hg
    obtain ⟨its, rv, p, hz⟩ := I.tuple hq
    obtain ⟨u, hu, ru⟩ := rv.get hx
    have pt : s.heap.IsTuple a its.toArray := p
    have hel : e < s.heap.objs.size := Heap.lt_size he
    have hil : it < s.heap.objs.size := by obtain ⟨_, q, _⟩ := hit; exact Heap.lt_size q
    have hai : a ≠ it := fun z => by
      obtain ⟨o, q1, q2, _⟩ := hit
      obtain ⟨o', q3, q4, _⟩ := pt
      rw [z, q1] at q3
      cases q3
      rw [q2] at q4
      exact absurd (show Value.type "tuple_iterator" = Value.type "tuple" from q4) (by decide)
    have hae : e ≠ a := fun z => by
      obtain ⟨o', q3, q4, _⟩ := pt
      have he : s.heap.get? e = some _ := he
      rw [z, q3] at he
      cases he
      exact absurd (show Value.type "enumerate" = Value.type "tuple" from q4) (by decide)
    have hlt : i < its.toArray.size := by
      have := (List.getElem?_eq_some_iff.mp hu).1
      simpa using this
    refine wpAny_pyNext_enum_itemC (Draws.tuple (A := X.A.in1) (I.ok.hd hc) it a hai its.toArray) he ⟨hit, pt⟩ hlt hne (by simp [hne, hae]) fun v h' tk hP ho hst hT hsz hk => ?_
    have hv : v = u := by
      have hP : its.toArray[i]? = some v := hP
      rw [List.getElem?_toArray, hu] at hP
      exact (Option.some.inj hP).symm
    subst hv
    refine ⟨_, rfl, wpAny_letOwnedTupleGo_enum (s := { s with heap := h', toks := tk + 1 }) ho fun h'' he' sb => ?_⟩
    have hT2 : h''.get? s.heap.objs.size = some { cls := .type "tuple", data := .seq #[.int i tk, v] } := (sb.2 _ (Nat.ne_of_gt hel)).trans hT
    have new : ObjOk X.prog X.w (upd H s.heap.objs.size (.tup [.int (i : Nat), x])) h'' s.heap.objs.size (.tup [.int (i : Nat), x]) :=
      ⟨by show 2 ≤ sizeLine; decide, [.int i tk, v], .cons ⟨_, rfl⟩ (.cons ru .nil), ⟨_, hT2, rfl, _, rfl⟩⟩
    have I1 : Inv X pins σ (upd H s.heap.objs.size (.tup [.int (i : Nat), x])) { s with heap := h'', toks := tk + 1 } :=
      I.turnedNew (ch := [e, it]) (fun b ob hb q => (sb.2 b (fun z => hb (by simp [z]))).trans (hk b ob (fun z => hb (by simp [z])) (fun z => hb (by simp [z])) q)) hf (Nat.le_refl _) new
    refine ⟨.ref s.heap.objs.size, _, I1, rfl, ⟨_, x, rfl, I.hok.fresh (Nat.le_refl _), rfl, fun ys hy => by rw [I.tuple_inj hy hq]; exact hx⟩, ⟨⟨v, ?_⟩, hst.1.at fun o q => (sb.2 it (Ne.symm hne)).trans q, hne⟩, fun b hb => ?_⟩
    · have e1 : ((i + 1 : Nat) : Int) = (i : Int) + 1 := by omega
      rw [e1]; exact he'
    · have hb' : b < s.heap.objs.size := by
        have e' : b = e ∨ b = it := by simpa using hb
        rcases e' with z | z
        · rw [z]; exact hel
        · rw [z]; exact hil
      rw [upd_ne (Nat.ne_of_lt hb')]
      exact (hf b hb).1
  done := by
    intro X hP hw hK hc i pins s σ H E I hf st hg
    subst hP hw hK
    obtain ⟨⟨old, he⟩, hit, hne⟩ := st
    obtain ⟨xs, hq, hx⟩ := hg
    obtain ⟨its, rv, p, hz⟩ := I.tuple hq
    have pt : s.heap.IsTuple a its.toArray := p
    have hai : a ≠ it := fun z => by
      obtain ⟨o, q1, q2, _⟩ := hit
      obtain ⟨o', q3, q4, _⟩ := pt
      rw [z, q1] at q3
      cases q3
      rw [q2] at q4
      exact absurd (show Value.type "tuple_iterator" = Value.type "tuple" from q4) (by decide)
    obtain ⟨f0, f1, f2, f3, f4, f5⟩ := hf it (by simp)
    have hl := rv.length
    have hi : its.toArray[i]? = none := by simp; omega
    have D : Draws X.prog X.w X.A.in1 it [it, a] i (fun _ _ => True) (fun j h => j = i ∧ h.IsTupleIter it a i ∧ h.IsTuple a its.toArray) :=
      ⟨fun _ _ st => let ⟨o, ho, _⟩ := st.2.1; ⟨o, ho⟩, fun _ _ _ st hk => ⟨st.1, st.2.1.at fun o e => hk it (by simp) o e, st.2.2.at fun o e => hk a (by simp) o e⟩, fun j s Q E hj st _ => absurd st.1 (Nat.ne_of_lt hj),
        fun s Q E st hE => wpAny_nextOf_tuple_end (I.ok.hd hc) st.2.1 st.2.2 hi hE⟩
    exact wpAny_pyNext_enum_endD D he ⟨rfl, hit, pt⟩ fun h' eb => ⟨rfl, I.turned (t' := s.toks) (fun b o hb q => eb b o hb q) f0 f1 f3 f4 f5⟩
  self := fun A i s Q E st h => let ⟨⟨_, he⟩, _⟩ := st; wpAny_pyIter_enum he h
def iEnumT (K : PySem.W.Frag) (ta : TA) : TI := fun σ H R => ta σ H fun vs H1 => ∃ a xs, vs = [.ref a] ∧ SqT K H1 a xs ∧ R (IteT K a) H1
theorem pi_enumT {X : Cx} {e : Expr} {ta : TA} {p pos tpos : Pos} {elts : List Expr} {kk : Nat} (hg : Gl X "enumerate") (hm : X.mg "enumerate" = none) (ha : PA X [e] ta) (hs : starEach [e] X.env = [(false, eval e X.env)] := by rfl) :
    PI X (.Tuple elts kk tpos) (.Call (.Name "enumerate" p) [e] [] pos) (iEnumT X.K ta) := by
  refine ⟨fun pins s σ H R I h => ?_⟩
  refine Call_ (ld_blt I hg hm boot_enumerate (PyProof.Rows.callWith_type1 (thn (ha.run pos pins s σ H _ I h) fun us s1 ⟨vs, H1, I1, r1, q1⟩ => ?_) hs rfl))
  obtain ⟨a, xs, ex, hq, q⟩ := q1
  subst ex
  cases r1 with
  | cons r rr =>
    cases rr
    cases r
    obtain ⟨its, rv, p', hz⟩ := I1.tuple hq
    refine XE_enum_begins (begins_tuple a its.toArray) p' fun h' he hit hsz hk => wpAny_pyIter_enum he ?_
    have I2 : Inv X pins σ H1 { s1 with heap := h' } := I1.kept (t' := s1.toks) hk
    refine ⟨s1.heap.objs.size + 1, [s1.heap.objs.size + 1, s1.heap.objs.size], _, _, H1, rfl, I2, turn_enumT a (s1.heap.objs.size + 1) s1.heap.objs.size, ⟨⟨.none, he⟩, ⟨_, hit, rfl, rfl⟩, Nat.succ_ne_self _⟩, fun b hb => ?_, q⟩
    have e' : b = s1.heap.objs.size + 1 ∨ b = s1.heap.objs.size := by simpa using hb
    have hle : s1.heap.objs.size ≤ b := by
      rcases e' with z | z
      · rw [z]; exact Nat.le_add_right _ _
      · rw [z]; exact Nat.le_refl _
    exact I1.fpOk hle (I1.hok.fresh hle)
theorem walk_enumT {K : PySem.W.Frag} {a : Addr} {xs : List V} : Walk (IteT K a) xs.length (fun H => SqT K H a xs) (YPair (fun i => some (.int (i : Nat))) (fun i => xs[i]?)) := by
  refine ⟨fun i _ hi q => ⟨xs, xs[i], q, by simp [hi]⟩, fun _ q => ⟨xs, q, Nat.le_refl _⟩, fun i H v H' _ q y => ?_⟩
  obtain ⟨T, x, h1, h2, h3, h4⟩ := y
  exact ⟨T, .int (i : Nat), x, h1, h2, h3, rfl, h4 xs q⟩
end L2
namespace My
open PySem L2 SX XT XS XE
def top (i : Nat) : Stmt := PySem.Challenge.pw_livequill_k24_written_forms.main.body.getD i (.Pass ⟨0, 0, 0, 0⟩)
abbrev s_quoted : Stmt := top 2
theorem sc_quoted : FnScope ["text", "held"] ["text"] (defScope s_quoted) := ⟨rfl, rfl, rfl, by decide +kernel, rfl, by decide +kernel, by decide +kernel⟩
abbrev s_tagged : Stmt := top 9
theorem sc_tagged : FnScope ["key"] ["key"] (defScope s_tagged) := ⟨rfl, rfl, rfl, by decide +kernel, rfl, by decide +kernel, by decide +kernel⟩
abbrev s_write_value : Stmt := top 18
theorem sc_write_value : FnScope ["store", "value", "most", "form"] ["store", "value", "most"] (defScope s_write_value) := ⟨rfl, rfl, rfl, by decide +kernel, rfl, by decide +kernel, by decide +kernel⟩
abbrev s_text_of : Stmt := top 19
theorem sc_text_of : FnScope ["store", "value", "most"] ["store", "value", "most"] (defScope s_text_of) := ⟨rfl, rfl, rfl, by decide +kernel, rfl, by decide +kernel, by decide +kernel⟩
abbrev s_show_ : Stmt := top 20
theorem sc_show_ : FnScope ["store", "value"] ["store", "value"] (defScope s_show_) := ⟨rfl, rfl, rfl, by decide +kernel, rfl, by decide +kernel, by decide +kernel⟩
abbrev s_shortened : Stmt := top 21
theorem sc_shortened : FnScope ["text"] ["text"] (defScope s_shortened) := ⟨rfl, rfl, rfl, by decide +kernel, rfl, by decide +kernel, by decide +kernel⟩
abbrev s_write : Stmt := top 23
theorem sc_write : FnScope ["form", "value", "thing"] ["form", "value"] (defScope s_write) := ⟨rfl, rfl, rfl, by decide +kernel, rfl, by decide +kernel, by decide +kernel⟩
abbrev s_write_around : Stmt := top 24
theorem sc_write_around : FnScope ["form", "ref", "opening", "closing"] ["form", "ref", "opening", "closing"] (defScope s_write_around) := ⟨rfl, rfl, rfl, by decide +kernel, rfl, by decide +kernel, by decide +kernel⟩
abbrev s_write_held : Stmt := top 25
theorem sc_write_held : FnScope ["form", "thing", "gap", "held", "at", "value"] ["form", "thing"] (defScope s_write_held) := ⟨rfl, rfl, rfl, by decide +kernel, rfl, by decide +kernel, by decide +kernel⟩
abbrev s_held_by : Stmt := top 26
theorem sc_held_by : FnScope ["thing", "part"] ["thing"] (defScope s_held_by) := ⟨rfl, rfl, rfl, by decide +kernel, rfl, by decide +kernel, by decide +kernel⟩
abbrev s_plain_form : Stmt := top 27
theorem sc_plain_form : FnScope ["form", "value", "thing", "name"] ["form", "value", "thing"] (defScope s_plain_form) := ⟨rfl, rfl, rfl, by decide +kernel, rfl, by decide +kernel, by decide +kernel⟩
abbrev s_law_cell : Stmt := top 31
theorem sc_law_cell : FnScope ["script", "k"] ["script", "k"] (defScope s_law_cell) := ⟨rfl, rfl, rfl, by decide +kernel, rfl, by decide +kernel, by decide +kernel⟩
abbrev s_law_begin : Stmt := top 32
theorem sc_law_begin : FnScope ["script", "k"] ["script", "k"] (defScope s_law_begin) := ⟨rfl, rfl, rfl, by decide +kernel, rfl, by decide +kernel, by decide +kernel⟩
abbrev s_law_draw : Stmt := top 33
theorem sc_law_draw : FnScope ["state", "many", "k", "cell", "prime", "mixed", "digit"] ["state", "many"] (defScope s_law_draw) := ⟨rfl, rfl, rfl, by decide +kernel, rfl, by decide +kernel, by decide +kernel⟩
abbrev s_law_pick : Stmt := top 34
theorem sc_law_pick : FnScope ["state", "row"] ["state", "row"] (defScope s_law_pick) := ⟨rfl, rfl, rfl, by decide +kernel, rfl, by decide +kernel, by decide +kernel⟩
abbrev s_law_value : Stmt := top 35
theorem sc_law_value : FnScope ["state", "many", "kind", "chars", "text", "k"] ["state", "many"] (defScope s_law_value) := ⟨rfl, rfl, rfl, by decide +kernel, rfl, by decide +kernel, by decide +kernel⟩
abbrev s_law_fill : Stmt := top 36
theorem sc_law_fill : FnScope ["store", "state", "many", "k", "kind", "thing", "j"] ["store", "state", "many"] (defScope s_law_fill) := ⟨rfl, rfl, rfl, by decide +kernel, rfl, by decide +kernel, by decide +kernel⟩
abbrev s_law_quoted : Stmt := top 37
theorem sc_law_quoted : FnScope ["text", "told", "at", "char"] ["text"] (defScope s_law_quoted) := ⟨rfl, rfl, rfl, by decide +kernel, rfl, by decide +kernel, by decide +kernel⟩
abbrev s_law_plain : Stmt := top 38
theorem sc_law_plain : FnScope ["store", "value", "thing"] ["store", "value"] (defScope s_law_plain) := ⟨rfl, rfl, rfl, by decide +kernel, rfl, by decide +kernel, by decide +kernel⟩
abbrev s_law_form : Stmt := top 39
theorem sc_law_form : FnScope ["store", "value", "around", "room", "thing", "marks", "inner", "told", "k", "pairs"] ["store", "value", "around", "room"] (defScope s_law_form) := ⟨rfl, rfl, rfl, by decide +kernel, rfl, by decide +kernel, by decide +kernel⟩
abbrev s_law : Stmt := top 40
theorem sc_law : FnScope ["script", "state", "store", "many", "k", "value", "most", "due", "told"] ["script"] (defScope s_law) := ⟨rfl, rfl, rfl, by decide +kernel, rfl, by decide +kernel, by decide +kernel⟩
abbrev s_Ref_init : Stmt := inClass (top 4) 0
theorem sc_Ref_init : FnScope ["self", "number"] ["self", "number"] (defScope s_Ref_init) := ⟨rfl, rfl, rfl, by decide +kernel, rfl, by decide +kernel, by decide +kernel⟩
abbrev s_Ref_eq : Stmt := inClass (top 4) 1
theorem sc_Ref_eq : FnScope ["self", "other"] ["self", "other"] (defScope s_Ref_eq) := ⟨rfl, rfl, rfl, by decide +kernel, rfl, by decide +kernel, by decide +kernel⟩
abbrev s_Builtin_init : Stmt := inClass (top 5) 0
theorem sc_Builtin_init : FnScope ["self", "name"] ["self", "name"] (defScope s_Builtin_init) := ⟨rfl, rfl, rfl, by decide +kernel, rfl, by decide +kernel, by decide +kernel⟩
abbrev s_Builtin_eq : Stmt := inClass (top 5) 1
theorem sc_Builtin_eq : FnScope ["self", "other"] ["self", "other"] (defScope s_Builtin_eq) := ⟨rfl, rfl, rfl, by decide +kernel, rfl, by decide +kernel, by decide +kernel⟩
abbrev s_Parts_init : Stmt := inClass (top 7) 0
theorem sc_Parts_init : FnScope ["self", "held"] ["self", "held"] (defScope s_Parts_init) := ⟨rfl, rfl, rfl, by decide +kernel, rfl, by decide +kernel, by decide +kernel⟩
abbrev s_Table_init : Stmt := inClass (top 8) 0
theorem sc_Table_init : FnScope ["self"] ["self"] (defScope s_Table_init) := ⟨rfl, rfl, rfl, by decide +kernel, rfl, by decide +kernel, by decide +kernel⟩
abbrev s_Table_has : Stmt := inClass (top 8) 1
theorem sc_Table_has : FnScope ["self", "key"] ["self", "key"] (defScope s_Table_has) := ⟨rfl, rfl, rfl, by decide +kernel, rfl, by decide +kernel, by decide +kernel⟩
abbrev s_Table_put : Stmt := inClass (top 8) 3
theorem sc_Table_put : FnScope ["self", "key", "value"] ["self", "key", "value"] (defScope s_Table_put) := ⟨rfl, rfl, rfl, by decide +kernel, rfl, by decide +kernel, by decide +kernel⟩
abbrev s_Table_pairs : Stmt := inClass (top 8) 5
theorem sc_Table_pairs : FnScope ["self"] ["self"] (defScope s_Table_pairs) := ⟨rfl, rfl, rfl, by decide +kernel, rfl, by decide +kernel, by decide +kernel⟩
abbrev s_Table_many : Stmt := inClass (top 8) 6
theorem sc_Table_many : FnScope ["self"] ["self"] (defScope s_Table_many) := ⟨rfl, rfl, rfl, by decide +kernel, rfl, by decide +kernel, by decide +kernel⟩
abbrev s_Instance_init : Stmt := inClass (top 10) 0
theorem sc_Instance_init : FnScope ["self", "owner"] ["self", "owner"] (defScope s_Instance_init) := ⟨rfl, rfl, rfl, by decide +kernel, rfl, by decide +kernel, by decide +kernel⟩
abbrev s_Kin_init : Stmt := inClass (top 11) 0
theorem sc_Kin_init : FnScope ["self", "name", "parent"] ["self", "name", "parent"] (defScope s_Kin_init) := ⟨rfl, rfl, rfl, by decide +kernel, rfl, by decide +kernel, by decide +kernel⟩
abbrev s_Closure_init : Stmt := inClass (top 12) 0
theorem sc_Closure_init : FnScope ["self", "number", "wanted", "scope"] ["self", "number", "wanted", "scope"] (defScope s_Closure_init) := ⟨rfl, rfl, rfl, by decide +kernel, rfl, by decide +kernel, by decide +kernel⟩
abbrev s_Bound_init : Stmt := inClass (top 13) 0
theorem sc_Bound_init : FnScope ["self", "owner", "function"] ["self", "owner", "function"] (defScope s_Bound_init) := ⟨rfl, rfl, rfl, by decide +kernel, rfl, by decide +kernel, by decide +kernel⟩
abbrev s_Cursor_init : Stmt := inClass (top 14) 0
theorem sc_Cursor_init : FnScope ["self", "rest"] ["self", "rest"] (defScope s_Cursor_init) := ⟨rfl, rfl, rfl, by decide +kernel, rfl, by decide +kernel, by decide +kernel⟩
abbrev s_Form_init : Stmt := inClass (top 22) 0
theorem sc_Form_init : FnScope ["self", "store", "most"] ["self", "store", "most"] (defScope s_Form_init) := ⟨rfl, rfl, rfl, by decide +kernel, rfl, by decide +kernel, by decide +kernel⟩
abbrev s_Form_add : Stmt := inClass (top 22) 1
theorem sc_Form_add : FnScope ["self", "text"] ["self", "text"] (defScope s_Form_add) := ⟨rfl, rfl, rfl, by decide +kernel, rfl, by decide +kernel, by decide +kernel⟩
abbrev s_Form_is_enough : Stmt := inClass (top 22) 2
theorem sc_Form_is_enough : FnScope ["self"] ["self"] (defScope s_Form_is_enough) := ⟨rfl, rfl, rfl, by decide +kernel, rfl, by decide +kernel, by decide +kernel⟩
abbrev s_Store_init : Stmt := inClass (top 29) 0
theorem sc_Store_init : FnScope ["self", "lines"] ["self", "lines"] (defScope s_Store_init) := ⟨rfl, rfl, rfl, by decide +kernel, rfl, by decide +kernel, by decide +kernel⟩
abbrev s_Store_make : Stmt := inClass (top 29) 1
theorem sc_Store_make : FnScope ["self", "thing"] ["self", "thing"] (defScope s_Store_make) := ⟨rfl, rfl, rfl, by decide +kernel, rfl, by decide +kernel, by decide +kernel⟩
abbrev s_Store_at : Stmt := inClass (top 29) 2
theorem sc_Store_at : FnScope ["self", "ref"] ["self", "ref"] (defScope s_Store_at) := ⟨rfl, rfl, rfl, by decide +kernel, rfl, by decide +kernel, by decide +kernel⟩
/-- where the classes stand -/
structure Ads where
  Ref : Addr
  Builtin : Addr
  Parts : Addr
  Table : Addr
  Instance : Addr
  Kin : Addr
  Closure : Addr
  Bound : Addr
  Cursor : Addr
  Form : Addr
  Store : Addr
structure CF (K : PySem.W.Frag) (mg : Str → Option Value) (C : Addr) (nm : Str) : Prop where
  cl : Cls K C
  g : mg nm = some (.ref C)
  ty : ∀ {H : Hp} {a dx : Addr} {fs : List (Str × V)}, H a = some (.ins C dx fs) → TyX K H (.ref a) (.ref C)
structure Fx (K : PySem.W.Frag) (mg : Str → Option Value) (nm : Str) (st : Stmt) (ps : List Str) where
  f : Addr
  fd : FuncData
  F : Fun K nm nm st f fd
  b : Binds K fd ps []
  g : mg nm = some (.ref f)
structure Mx (K : PySem.W.Frag) (C : Addr) (nm qual : Str) (st : Stmt) (ps : List Str) where
  f : Addr
  fd : FuncData
  F : Fun K nm qual st f fd
  b : Binds K fd ps []
  m : Meth K C nm f
structure Ix (K : PySem.W.Frag) (C : Addr) (qual : Str) (st : Stmt) (ps : List Str) where
  f : Addr
  fd : FuncData
  F : Fun K "__init__" qual st f fd
  b : Binds K fd ps []
  m : Mk K C f
structure OwnEq (K : PySem.W.Frag) (C f : Addr) : Prop where
  at_ : PySem.W.findIn K (.ref C) "__eq__" = some (some (.ref f))
  fn : PySem.W.isFn K (.ref f) = true
structure Qx (K : PySem.W.Frag) (C : Addr) (qual : Str) (st : Stmt) (ps : List Str) where
  f : Addr
  fd : FuncData
  F : Fun K "__eq__" qual st f fd
  b : Binds K fd ps []
  m : OwnEq K C f
structure Px (K : PySem.W.Frag) (C : Addr) (nm qual : Str) (st : Stmt) (ps : List Str) where
  f : Addr
  p : Addr
  fd : FuncData
  F : Fun K nm qual st f fd
  b : Binds K fd ps []
  m : PropOf K C nm p f
structure Tx (K : PySem.W.Frag) (mg : Str → Option Value) (nm : Str) (vs : List V) where
  a : Addr
  g : mg nm = some (.ref a)
  s : ∀ H, SqT K H a vs
structure Gx (mg : Str → Option Value) (C : Addr) (nm : Str) : Prop where
  g : mg nm = some (.ref C)
/-- what the written part says -/
structure Lib (P : Program) (K : PySem.W.Frag) (mg : Str → Option Value) (A : Ads) where
  z_range : mg "range" = none
  z_len : mg "len" = none
  z_int : mg "int" = none
  z_str : mg "str" = none
  z_bool : mg "bool" = none
  z_isinstance : mg "isinstance" = none
  z_list : mg "list" = none
  z_abs : mg "abs" = none
  z_min : mg "min" = none
  z_max : mg "max" = none
  z_enumerate : mg "enumerate" = none
  c_Ref : CF K mg A.Ref "Ref"
  n_Ref_number : PySem.W.findIn K (.ref A.Ref) "number" = some none
  c_Builtin : CF K mg A.Builtin "Builtin"
  n_Builtin_name : PySem.W.findIn K (.ref A.Builtin) "name" = some none
  c_Parts : CF K mg A.Parts "Parts"
  n_Parts_held : PySem.W.findIn K (.ref A.Parts) "held" = some none
  c_Table : CF K mg A.Table "Table"
  n_Table__entries : PySem.W.findIn K (.ref A.Table) "_entries" = some none
  c_Instance : CF K mg A.Instance "Instance"
  n_Instance_owner : PySem.W.findIn K (.ref A.Instance) "owner" = some none
  n_Instance_named : PySem.W.findIn K (.ref A.Instance) "named" = some none
  c_Kin : CF K mg A.Kin "Kin"
  n_Kin_name : PySem.W.findIn K (.ref A.Kin) "name" = some none
  n_Kin_parent : PySem.W.findIn K (.ref A.Kin) "parent" = some none
  n_Kin_methods : PySem.W.findIn K (.ref A.Kin) "methods" = some none
  c_Closure : CF K mg A.Closure "Closure"
  n_Closure_number : PySem.W.findIn K (.ref A.Closure) "number" = some none
  n_Closure_wanted : PySem.W.findIn K (.ref A.Closure) "wanted" = some none
  n_Closure_scope : PySem.W.findIn K (.ref A.Closure) "scope" = some none
  c_Bound : CF K mg A.Bound "Bound"
  n_Bound_owner : PySem.W.findIn K (.ref A.Bound) "owner" = some none
  n_Bound_function : PySem.W.findIn K (.ref A.Bound) "function" = some none
  c_Cursor : CF K mg A.Cursor "Cursor"
  n_Cursor_rest : PySem.W.findIn K (.ref A.Cursor) "rest" = some none
  c_Form : CF K mg A.Form "Form"
  n_Form_store : PySem.W.findIn K (.ref A.Form) "store" = some none
  n_Form_most : PySem.W.findIn K (.ref A.Form) "most" = some none
  n_Form_pieces : PySem.W.findIn K (.ref A.Form) "pieces" = some none
  n_Form_size : PySem.W.findIn K (.ref A.Form) "size" = some none
  n_Form_around : PySem.W.findIn K (.ref A.Form) "around" = some none
  c_Store : CF K mg A.Store "Store"
  n_Store_things : PySem.W.findIn K (.ref A.Store) "things" = some none
  n_Store_output : PySem.W.findIn K (.ref A.Store) "output" = some none
  n_Store_lines : PySem.W.findIn K (.ref A.Store) "lines" = some none
  n_Store_taken : PySem.W.findIn K (.ref A.Store) "taken" = some none
  k_Ref_Parts : PySem.W.kitOne K (.ref A.Ref) (.ref A.Parts) = some false
  k_Ref_Table : PySem.W.kitOne K (.ref A.Ref) (.ref A.Table) = some false
  k_Ref_Instance : PySem.W.kitOne K (.ref A.Ref) (.ref A.Instance) = some false
  k_Ref_Kin : PySem.W.kitOne K (.ref A.Ref) (.ref A.Kin) = some false
  k_Ref_Builtin : PySem.W.kitOne K (.ref A.Ref) (.ref A.Builtin) = some false
  k_Ref_str : PySem.W.kitOne K (.ref A.Ref) (.type "str") = some false
  k_Ref_bool : PySem.W.kitOne K (.ref A.Ref) (.type "bool") = some false
  k_Ref_int : PySem.W.kitOne K (.ref A.Ref) (.type "int") = some false
  k_Builtin_Parts : PySem.W.kitOne K (.ref A.Builtin) (.ref A.Parts) = some false
  k_Builtin_Table : PySem.W.kitOne K (.ref A.Builtin) (.ref A.Table) = some false
  k_Builtin_Instance : PySem.W.kitOne K (.ref A.Builtin) (.ref A.Instance) = some false
  k_Builtin_Kin : PySem.W.kitOne K (.ref A.Builtin) (.ref A.Kin) = some false
  k_Builtin_Ref : PySem.W.kitOne K (.ref A.Builtin) (.ref A.Ref) = some false
  k_Builtin_str : PySem.W.kitOne K (.ref A.Builtin) (.type "str") = some false
  k_Builtin_bool : PySem.W.kitOne K (.ref A.Builtin) (.type "bool") = some false
  k_Builtin_int : PySem.W.kitOne K (.ref A.Builtin) (.type "int") = some false
  k_Parts_Table : PySem.W.kitOne K (.ref A.Parts) (.ref A.Table) = some false
  k_Parts_Instance : PySem.W.kitOne K (.ref A.Parts) (.ref A.Instance) = some false
  k_Parts_Kin : PySem.W.kitOne K (.ref A.Parts) (.ref A.Kin) = some false
  k_Parts_Builtin : PySem.W.kitOne K (.ref A.Parts) (.ref A.Builtin) = some false
  k_Parts_Ref : PySem.W.kitOne K (.ref A.Parts) (.ref A.Ref) = some false
  k_Parts_str : PySem.W.kitOne K (.ref A.Parts) (.type "str") = some false
  k_Parts_bool : PySem.W.kitOne K (.ref A.Parts) (.type "bool") = some false
  k_Parts_int : PySem.W.kitOne K (.ref A.Parts) (.type "int") = some false
  k_Table_Parts : PySem.W.kitOne K (.ref A.Table) (.ref A.Parts) = some false
  k_Table_Instance : PySem.W.kitOne K (.ref A.Table) (.ref A.Instance) = some false
  k_Table_Kin : PySem.W.kitOne K (.ref A.Table) (.ref A.Kin) = some false
  k_Table_Builtin : PySem.W.kitOne K (.ref A.Table) (.ref A.Builtin) = some false
  k_Table_Ref : PySem.W.kitOne K (.ref A.Table) (.ref A.Ref) = some false
  k_Table_str : PySem.W.kitOne K (.ref A.Table) (.type "str") = some false
  k_Table_bool : PySem.W.kitOne K (.ref A.Table) (.type "bool") = some false
  k_Table_int : PySem.W.kitOne K (.ref A.Table) (.type "int") = some false
  k_Instance_Parts : PySem.W.kitOne K (.ref A.Instance) (.ref A.Parts) = some false
  k_Instance_Table : PySem.W.kitOne K (.ref A.Instance) (.ref A.Table) = some false
  k_Instance_Kin : PySem.W.kitOne K (.ref A.Instance) (.ref A.Kin) = some false
  k_Instance_Builtin : PySem.W.kitOne K (.ref A.Instance) (.ref A.Builtin) = some false
  k_Instance_Ref : PySem.W.kitOne K (.ref A.Instance) (.ref A.Ref) = some false
  k_Instance_str : PySem.W.kitOne K (.ref A.Instance) (.type "str") = some false
  k_Instance_bool : PySem.W.kitOne K (.ref A.Instance) (.type "bool") = some false
  k_Instance_int : PySem.W.kitOne K (.ref A.Instance) (.type "int") = some false
  k_Kin_Parts : PySem.W.kitOne K (.ref A.Kin) (.ref A.Parts) = some false
  k_Kin_Table : PySem.W.kitOne K (.ref A.Kin) (.ref A.Table) = some false
  k_Kin_Instance : PySem.W.kitOne K (.ref A.Kin) (.ref A.Instance) = some false
  k_Kin_Builtin : PySem.W.kitOne K (.ref A.Kin) (.ref A.Builtin) = some false
  k_Kin_Ref : PySem.W.kitOne K (.ref A.Kin) (.ref A.Ref) = some false
  k_Kin_str : PySem.W.kitOne K (.ref A.Kin) (.type "str") = some false
  k_Kin_bool : PySem.W.kitOne K (.ref A.Kin) (.type "bool") = some false
  k_Kin_int : PySem.W.kitOne K (.ref A.Kin) (.type "int") = some false
  k_Closure_Parts : PySem.W.kitOne K (.ref A.Closure) (.ref A.Parts) = some false
  k_Closure_Table : PySem.W.kitOne K (.ref A.Closure) (.ref A.Table) = some false
  k_Closure_Instance : PySem.W.kitOne K (.ref A.Closure) (.ref A.Instance) = some false
  k_Closure_Kin : PySem.W.kitOne K (.ref A.Closure) (.ref A.Kin) = some false
  k_Closure_Builtin : PySem.W.kitOne K (.ref A.Closure) (.ref A.Builtin) = some false
  k_Closure_Ref : PySem.W.kitOne K (.ref A.Closure) (.ref A.Ref) = some false
  k_Closure_str : PySem.W.kitOne K (.ref A.Closure) (.type "str") = some false
  k_Closure_bool : PySem.W.kitOne K (.ref A.Closure) (.type "bool") = some false
  k_Closure_int : PySem.W.kitOne K (.ref A.Closure) (.type "int") = some false
  k_Bound_Parts : PySem.W.kitOne K (.ref A.Bound) (.ref A.Parts) = some false
  k_Bound_Table : PySem.W.kitOne K (.ref A.Bound) (.ref A.Table) = some false
  k_Bound_Instance : PySem.W.kitOne K (.ref A.Bound) (.ref A.Instance) = some false
  k_Bound_Kin : PySem.W.kitOne K (.ref A.Bound) (.ref A.Kin) = some false
  k_Bound_Builtin : PySem.W.kitOne K (.ref A.Bound) (.ref A.Builtin) = some false
  k_Bound_Ref : PySem.W.kitOne K (.ref A.Bound) (.ref A.Ref) = some false
  k_Bound_str : PySem.W.kitOne K (.ref A.Bound) (.type "str") = some false
  k_Bound_bool : PySem.W.kitOne K (.ref A.Bound) (.type "bool") = some false
  k_Bound_int : PySem.W.kitOne K (.ref A.Bound) (.type "int") = some false
  k_Cursor_Parts : PySem.W.kitOne K (.ref A.Cursor) (.ref A.Parts) = some false
  k_Cursor_Table : PySem.W.kitOne K (.ref A.Cursor) (.ref A.Table) = some false
  k_Cursor_Instance : PySem.W.kitOne K (.ref A.Cursor) (.ref A.Instance) = some false
  k_Cursor_Kin : PySem.W.kitOne K (.ref A.Cursor) (.ref A.Kin) = some false
  k_Cursor_Builtin : PySem.W.kitOne K (.ref A.Cursor) (.ref A.Builtin) = some false
  k_Cursor_Ref : PySem.W.kitOne K (.ref A.Cursor) (.ref A.Ref) = some false
  k_Cursor_str : PySem.W.kitOne K (.ref A.Cursor) (.type "str") = some false
  k_Cursor_bool : PySem.W.kitOne K (.ref A.Cursor) (.type "bool") = some false
  k_Cursor_int : PySem.W.kitOne K (.ref A.Cursor) (.type "int") = some false
  k_Form_Parts : PySem.W.kitOne K (.ref A.Form) (.ref A.Parts) = some false
  k_Form_Table : PySem.W.kitOne K (.ref A.Form) (.ref A.Table) = some false
  k_Form_Instance : PySem.W.kitOne K (.ref A.Form) (.ref A.Instance) = some false
  k_Form_Kin : PySem.W.kitOne K (.ref A.Form) (.ref A.Kin) = some false
  k_Form_Builtin : PySem.W.kitOne K (.ref A.Form) (.ref A.Builtin) = some false
  k_Form_Ref : PySem.W.kitOne K (.ref A.Form) (.ref A.Ref) = some false
  k_Form_str : PySem.W.kitOne K (.ref A.Form) (.type "str") = some false
  k_Form_bool : PySem.W.kitOne K (.ref A.Form) (.type "bool") = some false
  k_Form_int : PySem.W.kitOne K (.ref A.Form) (.type "int") = some false
  k_Store_Parts : PySem.W.kitOne K (.ref A.Store) (.ref A.Parts) = some false
  k_Store_Table : PySem.W.kitOne K (.ref A.Store) (.ref A.Table) = some false
  k_Store_Instance : PySem.W.kitOne K (.ref A.Store) (.ref A.Instance) = some false
  k_Store_Kin : PySem.W.kitOne K (.ref A.Store) (.ref A.Kin) = some false
  k_Store_Builtin : PySem.W.kitOne K (.ref A.Store) (.ref A.Builtin) = some false
  k_Store_Ref : PySem.W.kitOne K (.ref A.Store) (.ref A.Ref) = some false
  k_Store_str : PySem.W.kitOne K (.ref A.Store) (.type "str") = some false
  k_Store_bool : PySem.W.kitOne K (.ref A.Store) (.type "bool") = some false
  k_Store_int : PySem.W.kitOne K (.ref A.Store) (.type "int") = some false
  k_NoneType_Parts : PySem.W.kitOne K (.type "NoneType") (.ref A.Parts) = some false
  k_NoneType_Table : PySem.W.kitOne K (.type "NoneType") (.ref A.Table) = some false
  k_NoneType_Instance : PySem.W.kitOne K (.type "NoneType") (.ref A.Instance) = some false
  k_NoneType_Kin : PySem.W.kitOne K (.type "NoneType") (.ref A.Kin) = some false
  k_NoneType_Builtin : PySem.W.kitOne K (.type "NoneType") (.ref A.Builtin) = some false
  k_NoneType_Ref : PySem.W.kitOne K (.type "NoneType") (.ref A.Ref) = some false
  k_bool_Parts : PySem.W.kitOne K (.type "bool") (.ref A.Parts) = some false
  k_bool_Table : PySem.W.kitOne K (.type "bool") (.ref A.Table) = some false
  k_bool_Instance : PySem.W.kitOne K (.type "bool") (.ref A.Instance) = some false
  k_bool_Kin : PySem.W.kitOne K (.type "bool") (.ref A.Kin) = some false
  k_bool_Builtin : PySem.W.kitOne K (.type "bool") (.ref A.Builtin) = some false
  k_bool_Ref : PySem.W.kitOne K (.type "bool") (.ref A.Ref) = some false
  k_int_Parts : PySem.W.kitOne K (.type "int") (.ref A.Parts) = some false
  k_int_Table : PySem.W.kitOne K (.type "int") (.ref A.Table) = some false
  k_int_Instance : PySem.W.kitOne K (.type "int") (.ref A.Instance) = some false
  k_int_Kin : PySem.W.kitOne K (.type "int") (.ref A.Kin) = some false
  k_int_Builtin : PySem.W.kitOne K (.type "int") (.ref A.Builtin) = some false
  k_int_Ref : PySem.W.kitOne K (.type "int") (.ref A.Ref) = some false
  k_str_Parts : PySem.W.kitOne K (.type "str") (.ref A.Parts) = some false
  k_str_Table : PySem.W.kitOne K (.type "str") (.ref A.Table) = some false
  k_str_Instance : PySem.W.kitOne K (.type "str") (.ref A.Instance) = some false
  k_str_Kin : PySem.W.kitOne K (.type "str") (.ref A.Kin) = some false
  k_str_Builtin : PySem.W.kitOne K (.type "str") (.ref A.Builtin) = some false
  k_str_Ref : PySem.W.kitOne K (.type "str") (.ref A.Ref) = some false
  k_tuple_Parts : PySem.W.kitOne K (.type "tuple") (.ref A.Parts) = some false
  k_tuple_Table : PySem.W.kitOne K (.type "tuple") (.ref A.Table) = some false
  k_tuple_Instance : PySem.W.kitOne K (.type "tuple") (.ref A.Instance) = some false
  k_tuple_Kin : PySem.W.kitOne K (.type "tuple") (.ref A.Kin) = some false
  k_tuple_Builtin : PySem.W.kitOne K (.type "tuple") (.ref A.Builtin) = some false
  k_tuple_Ref : PySem.W.kitOne K (.type "tuple") (.ref A.Ref) = some false
  k_list_Parts : PySem.W.kitOne K (.type "list") (.ref A.Parts) = some false
  k_list_Table : PySem.W.kitOne K (.type "list") (.ref A.Table) = some false
  k_list_Instance : PySem.W.kitOne K (.type "list") (.ref A.Instance) = some false
  k_list_Kin : PySem.W.kitOne K (.type "list") (.ref A.Kin) = some false
  k_list_Builtin : PySem.W.kitOne K (.type "list") (.ref A.Builtin) = some false
  k_list_Ref : PySem.W.kitOne K (.type "list") (.ref A.Ref) = some false
  nf_Ref_NoneType : PySem.W.notFirst K A.Ref (.type "NoneType") = true
  su_Ref_NoneType : PySem.W.subIn K (.ref A.Ref) (.type "NoneType") = some false
  nf_Ref_int : PySem.W.notFirst K A.Ref (.type "int") = true
  su_Ref_int : PySem.W.subIn K (.ref A.Ref) (.type "int") = some false
  nf_Ref_str : PySem.W.notFirst K A.Ref (.type "str") = true
  su_Ref_str : PySem.W.subIn K (.ref A.Ref) (.type "str") = some false
  nf_Ref_tuple : PySem.W.notFirst K A.Ref (.type "tuple") = true
  su_Ref_tuple : PySem.W.subIn K (.ref A.Ref) (.type "tuple") = some false
  nf_Ref_list : PySem.W.notFirst K A.Ref (.type "list") = true
  su_Ref_list : PySem.W.subIn K (.ref A.Ref) (.type "list") = some false
  nf_Ref_Builtin : PySem.W.notFirst K A.Ref (.ref A.Builtin) = true
  nf_Ref_Parts : PySem.W.notFirst K A.Ref (.ref A.Parts) = true
  nf_Ref_Table : PySem.W.notFirst K A.Ref (.ref A.Table) = true
  nf_Ref_Instance : PySem.W.notFirst K A.Ref (.ref A.Instance) = true
  nf_Ref_Kin : PySem.W.notFirst K A.Ref (.ref A.Kin) = true
  nf_Ref_Closure : PySem.W.notFirst K A.Ref (.ref A.Closure) = true
  nf_Ref_Bound : PySem.W.notFirst K A.Ref (.ref A.Bound) = true
  nf_Ref_Cursor : PySem.W.notFirst K A.Ref (.ref A.Cursor) = true
  nf_Ref_Form : PySem.W.notFirst K A.Ref (.ref A.Form) = true
  nf_Ref_Store : PySem.W.notFirst K A.Ref (.ref A.Store) = true
  nf_Builtin_NoneType : PySem.W.notFirst K A.Builtin (.type "NoneType") = true
  su_Builtin_NoneType : PySem.W.subIn K (.ref A.Builtin) (.type "NoneType") = some false
  nf_Builtin_int : PySem.W.notFirst K A.Builtin (.type "int") = true
  su_Builtin_int : PySem.W.subIn K (.ref A.Builtin) (.type "int") = some false
  nf_Builtin_str : PySem.W.notFirst K A.Builtin (.type "str") = true
  su_Builtin_str : PySem.W.subIn K (.ref A.Builtin) (.type "str") = some false
  nf_Builtin_tuple : PySem.W.notFirst K A.Builtin (.type "tuple") = true
  su_Builtin_tuple : PySem.W.subIn K (.ref A.Builtin) (.type "tuple") = some false
  nf_Builtin_list : PySem.W.notFirst K A.Builtin (.type "list") = true
  su_Builtin_list : PySem.W.subIn K (.ref A.Builtin) (.type "list") = some false
  nf_Builtin_Ref : PySem.W.notFirst K A.Builtin (.ref A.Ref) = true
  nf_Builtin_Parts : PySem.W.notFirst K A.Builtin (.ref A.Parts) = true
  nf_Builtin_Table : PySem.W.notFirst K A.Builtin (.ref A.Table) = true
  nf_Builtin_Instance : PySem.W.notFirst K A.Builtin (.ref A.Instance) = true
  nf_Builtin_Kin : PySem.W.notFirst K A.Builtin (.ref A.Kin) = true
  nf_Builtin_Closure : PySem.W.notFirst K A.Builtin (.ref A.Closure) = true
  nf_Builtin_Bound : PySem.W.notFirst K A.Builtin (.ref A.Bound) = true
  nf_Builtin_Cursor : PySem.W.notFirst K A.Builtin (.ref A.Cursor) = true
  nf_Builtin_Form : PySem.W.notFirst K A.Builtin (.ref A.Form) = true
  nf_Builtin_Store : PySem.W.notFirst K A.Builtin (.ref A.Store) = true
  v_MOST_SHOWN : ∃ t, mg "MOST_SHOWN" = some (.int 100 t)
  v_MOST_AROUND : ∃ t, mg "MOST_AROUND" = some (.int 10 t)
  quoted : Fx K mg "quoted" s_quoted ["text"]
  tagged : Fx K mg "tagged" s_tagged ["key"]
  write_value : Fx K mg "write_value" s_write_value ["store", "value", "most"]
  text_of : Fx K mg "text_of" s_text_of ["store", "value", "most"]
  show_ : Fx K mg "show" s_show_ ["store", "value"]
  shortened : Fx K mg "shortened" s_shortened ["text"]
  write : Fx K mg "write" s_write ["form", "value"]
  write_around : Fx K mg "write_around" s_write_around ["form", "ref", "opening", "closing"]
  write_held : Fx K mg "write_held" s_write_held ["form", "thing"]
  held_by : Fx K mg "held_by" s_held_by ["thing"]
  plain_form : Fx K mg "plain_form" s_plain_form ["form", "value", "thing"]
  law_cell : Fx K mg "_law_cell" s_law_cell ["script", "k"]
  law_begin : Fx K mg "_law_begin" s_law_begin ["script", "k"]
  law_draw : Fx K mg "_law_draw" s_law_draw ["state", "many"]
  law_pick : Fx K mg "_law_pick" s_law_pick ["state", "row"]
  law_value : Fx K mg "_law_value" s_law_value ["state", "many"]
  law_fill : Fx K mg "_law_fill" s_law_fill ["store", "state", "many"]
  law_quoted : Fx K mg "_law_quoted" s_law_quoted ["text"]
  law_plain : Fx K mg "_law_plain" s_law_plain ["store", "value"]
  law_form : Fx K mg "_law_form" s_law_form ["store", "value", "around", "room"]
  Ref_init : Ix K A.Ref "Ref.__init__" s_Ref_init ["self", "number"]
  Ref_eq : Qx K A.Ref "Ref.__eq__" s_Ref_eq ["self", "other"]
  Builtin_init : Ix K A.Builtin "Builtin.__init__" s_Builtin_init ["self", "name"]
  Builtin_eq : Qx K A.Builtin "Builtin.__eq__" s_Builtin_eq ["self", "other"]
  Parts_init : Ix K A.Parts "Parts.__init__" s_Parts_init ["self", "held"]
  Table_init : Ix K A.Table "Table.__init__" s_Table_init ["self"]
  Table_has : Mx K A.Table "has" "Table.has" s_Table_has ["self", "key"]
  Table_put : Mx K A.Table "put" "Table.put" s_Table_put ["self", "key", "value"]
  Table_pairs : Mx K A.Table "pairs" "Table.pairs" s_Table_pairs ["self"]
  Table_many : Px K A.Table "many" "Table.many" s_Table_many ["self"]
  Instance_init : Ix K A.Instance "Instance.__init__" s_Instance_init ["self", "owner"]
  Kin_init : Ix K A.Kin "Kin.__init__" s_Kin_init ["self", "name", "parent"]
  Closure_init : Ix K A.Closure "Closure.__init__" s_Closure_init ["self", "number", "wanted", "scope"]
  Bound_init : Ix K A.Bound "Bound.__init__" s_Bound_init ["self", "owner", "function"]
  Cursor_init : Ix K A.Cursor "Cursor.__init__" s_Cursor_init ["self", "rest"]
  Form_init : Ix K A.Form "Form.__init__" s_Form_init ["self", "store", "most"]
  Form_add : Mx K A.Form "add" "Form.add" s_Form_add ["self", "text"]
  Form_is_enough : Mx K A.Form "is_enough" "Form.is_enough" s_Form_is_enough ["self"]
  Store_init : Ix K A.Store "Store.__init__" s_Store_init ["self", "lines"]
  Store_make : Mx K A.Store "make" "Store.make" s_Store_make ["self", "thing"]
  Store_at : Mx K A.Store "at" "Store.at" s_Store_at ["self", "ref"]
end My
namespace My
open PySem L2 SX XT XS XE
open C8 (pss_cut tCut cutS_slice pe_gc)
def Keep (p : Addr) (H H' : Hp) : Prop := ∀ b o, H b = some o → b ≠ p → H' b = some o
theorem Same.keep {p : Addr} {H H' : Hp} (s : Same H H') : Keep p H H' := fun b o e _ => s b o e
theorem Keep.trans {p : Addr} {H H1 H2 : Hp} (a : Keep p H H1) (b : Keep p H1 H2) : Keep p H H2 := fun c o e n => b c o (a c o e n) n
theorem keep_upd {p : Addr} {H : Hp} {o : HO} : Keep p H (upd H p o) := fun b x e n => by
  rw [upd_ne n]
  exact e
theorem same_upd {H : Hp} {p : Addr} {o : HO} (h : H p = none) : Same H (upd H p o) := fun b x e => by
  rw [upd_ne (ne_of_none e h)]
  exact e
theorem lk_hit {k : Str} {v : V} {r : List (Str × V)} : ((k, v) :: r).lookup k = some v := by
  simp [List.lookup]
theorem ifF {b : Bool} {A B : Prop} (h : b = false) (q : B) : if b = true then A else B := by
  rw [h]
  exact iteF q
theorem ifT {b : Bool} {A B : Prop} (h : b = true) (q : A) : if b = true then A else B := by
  rw [h]
  exact iteT q
theorem ite_or {b : Bool} {A B : Prop} (h1 : b = true → A) (h2 : b = false → B) : if b = true then A else B := by
  cases b with
  | true => exact iteT (h1 rfl)
  | false => exact iteF (h2 rfl)
theorem lk_skip {k k' : Str} {v : V} {r : List (Str × V)} (h : (k == k') = false) : ((k', v) :: r).lookup k = r.lookup k := by
  simp [List.lookup, h]
theorem kit_self {K : PySem.W.Frag} (C : Addr) : PySem.W.kitOne K (.ref C) (.ref C) = some true := if_pos (beq_self_eq_true _)
theorem nf_self {K : PySem.W.Frag} (C : Addr) : PySem.W.notFirst K C (.ref C) = true := by simp [PySem.W.notFirst]
theorem ne_cls {K : PySem.W.Frag} {C D : Addr} (h : PySem.W.kitOne K (.ref C) (.ref D) = some false) : C ≠ D := fun z => by
  rw [z, kit_self] at h
  cases h
theorem sqt_same {K : PySem.W.Frag} {H H' : Hp} {r : Addr} {xs : List V} (s : Same H H') (h : SqT K H r xs) : SqT K H' r xs := by
  rcases h with (h | ⟨ob, h⟩) | h
  · exact .inl (.inl (s _ _ h))
  · exact .inl (.inr ⟨ob, s _ _ h⟩)
  · exact .inr h
theorem Same.put {H H' : Hp} {p : Addr} {o : HO} (s : Same H H') (h : H p = none) : Same H (upd H' p o) := fun b x e => by
  rw [upd_ne (ne_of_none e h)]
  exact s _ _ e
theorem seq_nat {i n : Nat} (h : i < n) : seqIndex? (i : Int) n = some i := by
  unfold seqIndex?
  split <;> first | (simp; omega) | (simp_all; try omega)
theorem ixN_nat {i n : Nat} (h : i < n) : ixN n (i : Int) = some i := by
  unfold ixN
  split <;> first | (simp; omega) | (simp_all; try omega)
end My
namespace My
open PySem L2 SX
open C8 (pss_cut tCut cutS_slice pe_gc)
/-! ### == between values of which one has its own __eq__ -/
section
variable {prog : Program} {w : World} {A : Around} {E : Value → Shared → Prop} {s : Shared} {K : PySem.W.Frag} {x C L f : Addr} {h₀ : Heap} {m : Str → Option Value} {ox : Obj} {od : Option Obj}
theorem cmp_back {a : Value} {Ta id : String} {Q : Value → Shared → Prop} (hu : A.units < cLine) (F : PyProof.Rows.Fr h₀ L s.heap m) (X₀ : K.In h₀) (I : PySem.W.InstAt s.heap x ox C od) (ha : s.TypeIs a Ta) (h1 : Slot Ta "__eq__" id)
    (hsub : PySem.W.subIn K (.ref C) (.type Ta) = some false) (hc : ∀ Q' : Value → Shared → Prop, Q' .notImplemented s → wpAny (model prog w) A (call (.builtin id) [a, .ref x]) Q' E s)
    (hs : PySem.W.findIn K (.ref C) "__eq__" = some (some (.ref f))) (hf : PySem.W.isFn K (.ref f) = true)
    (h : wpAny (model prog w) A (call (.ref f) [.ref x, a]) (PySem.W.CmpBack Q) E s) : wpAny (model prog w) A (richCompare .Eq a (.ref x)) Q E s := by
  have X := X₀.keeps F.keep
  have one : wpAny (model prog w) A (tryCompare (.ref x) "__eq__" a) (fun r s' => ∃ v, r = some v ∧ Q v s') E s := by
    unfold tryCompare
    refine wpAny_bind (PySem.W.ifBound_K X I hs hf (wpAny_mono h (fun v s' hv => ?_) fun _ _ e => e))
    cases v <;> first | exact hv.elim | exact wpAny_pure ⟨_, rfl, hv⟩
  unfold richCompare
  simp only [cmpInfo, ha.oneThing_none]
  refine wpAny_holding (wpAny_bind (wpAny_cRoomFor hu ?_))
  refine wpAny_bind (wpAny_typeOf ha (wpAny_bind (I.type.here ?_)))
  have hne : (Value.ref C == Value.type Ta) = false := rfl
  have hne' : (Value.type Ta != Value.ref C) = true := rfl
  simp only [hne', if_true]
  refine wpAny_bind ((PySem.W.looks_subIn X hsub).here ?_)
  simp only [Bool.false_eq_true, if_false, Bool.not_false, if_true]
  refine wpAny_bind (m := tryCompare a _ _) (wpAny_tryCompare_declines ha h1 (hc _ ⟨rfl, ?_⟩))
  refine wpAny_bind (wpAny_mono one (fun r s' z => ?_) fun _ _ e => e)
  obtain ⟨v, rfl, hq⟩ := z
  exact wpAny_pure hq
end
theorem int_eq_declines_ins (b : Int) (u : Tok) (l : Addr) (o : Obj) :
    PySem.Meets (Builtin.«int.__eq__» ⟨[.int b u, .ref l], []⟩) (fun _ R s => s.heap.get? l = some o ∧ o.data = .plain ∧ (∃ C, o.cls = .ref C) ∧ R (.ok (.ret .notImplemented)) s) :=
  .of_wp fun prog w A R s h => by
    obtain ⟨hp, g, d, tk, os⟩ := s
    obtain ⟨hl, hd, ⟨C, hC⟩, h⟩ := h
    obtain ⟨cls, dd, dat, sl⟩ := o
    cases hd
    cases hC
    wp_walk using PySem.AutoSeq1.wpAny_loadPart' hl, wpAny_load hl
    exact ⟨_, rfl, h⟩
theorem str_eq_declines_ins (b : Str) (u : Tok) (l : Addr) (o : Obj) :
    PySem.Meets (Builtin.«str.__eq__» ⟨[.str b u, .ref l], []⟩) (fun _ R s => s.heap.get? l = some o ∧ o.data = .plain ∧ (∃ C, o.cls = .ref C) ∧ R (.ok (.ret .notImplemented)) s) :=
  .of_wp fun prog w A R s h => by
    obtain ⟨hp, g, d, tk, os⟩ := s
    obtain ⟨hl, hd, ⟨C, hC⟩, h⟩ := h
    obtain ⟨cls, dd, dat, sl⟩ := o
    cases hd
    cases hC
    wp_walk using PySem.AutoSeq1.wpAny_loadPart' hl, wpAny_load hl
    exact ⟨_, rfl, h⟩
/-- the type of a scalar or of an instance -/
inductive TyE (H : Hp) : V → Value → Prop where
  | non : TyE H .non (.type "NoneType")
  | bl (b : Bool) : TyE H (.bl b) (.type "bool")
  | int (i : Int) : TyE H (.int i) (.type "int")
  | str (x : Str) : TyE H (.str x) (.type "str")
  | ins {a C dx : Addr} {fs : List (Str × V)} (e : H a = some (.ins C dx fs)) : TyE H (.ref a) (.ref C)
theorem TyE.looks {X : Cx} {pins : List (Addr × Obj)} {s : Shared} {σ : St} {H : Hp} {y : V} {u t : Value} (I : Inv X pins σ H s) (r : RelV y u) (ty : TyE H y t) : PySem.W.Looks (model X.prog X.w) s.heap (typeOf u) t := by
  cases ty with
  | non => cases (show u = Value.none from r); exact .of_pure rfl
  | bl b => cases (show u = Value.bool b from r); exact .of_pure rfl
  | int i => obtain ⟨t', e⟩ := (show ∃ t, u = Value.int i t from r); cases e; exact .of_pure rfl
  | str x => obtain ⟨t', e⟩ := (show ∃ t, u = Value.str x t from r); cases e; exact .of_pure rfl
  | ins e =>
    cases (show u = Value.ref _ from r)
    obtain ⟨mA, J, _⟩ := ins_get I.hok e
    obtain ⟨od, J, _⟩ := J.look
    exact J.type
/-- what the call of the own == gives back -/
theorem own_run {X : Cx} {n : Nat} {CX : CXT} {f : Addr} {fd : FuncData} {ps : List Str} {sp : Sp} {E : XK} (F : FnOk X.prog X.w X.K X.mg X.base CX n f fd ps sp) (hb : Binds X.K fd ps []) (hx : Passes CX X E) (hr : Room n X.A)
    {pins : List (Addr × Obj)} {s : Shared} {σ : St} {H : Hp} {x y : V} {v u : Value} {Q : VK} (I : Inv X pins σ H s) (rx : RelV x v) (ry : RelV y u) (h : sp [x, y] H (fun z H' => ∃ b, z = .bl b ∧ Q (.bl b) H') E) :
    wpAny (model X.prog X.w) X.A (call (.ref f) [v, u]) (PySem.W.CmpBack (EP X pins σ Q)) X.xe s := by
  have hl := F.len _ _ _ _ h
  have r2 : Vals [x, y] [v, u] := .cons rx (.cons ry .nil)
  refine wpAny_call (codeAny_mono (F.run X.A X.stack s H ⟨[v, u], []⟩ [v, u] [x, y] _ E hr I.env0 (by
    have := hb s [v, u] I.kIn (by simpa using hl)
    simpa using this) r2 h) fun r s' hq => ?_)
  cases r with
  | error e => exact hx pins σ H s e s' I hq
  | ok fl =>
    cases fl with
    | ret w =>
      obtain ⟨z, H', I', rz, b, ez, q⟩ := I.after hq
      subst ez
      cases (show w = Value.bool b from rz)
      exact ⟨.bl b, H', I', rfl, q⟩
    | next => exact False.elim hq
    | brk => exact False.elim hq
    | cont => exact False.elim hq
/-- an instance with its own == on the left -/
theorem op_eqL {X : Cx} {n : Nat} {CX : CXT} {C f : Addr} {fd : FuncData} {ps : List Str} {sp : Sp} {E : XK} (O : OwnEq X.K C f) (F : FnOk X.prog X.w X.K X.mg X.base CX n f fd ps sp) (hb : Binds X.K fd ps []) (hx : Passes CX X E) (hr : Room n X.A) :
    OpR X (compareOp .Eq) (fun x y H Q => ∃ a dx fs tb, x = .ref a ∧ H a = some (.ins C dx fs) ∧ TyE H y tb ∧ PySem.W.notFirst X.K C tb = true ∧ sp [x, y] H (fun z H' => ∃ b, z = .bl b ∧ Q (.bl b) H') E) := by
  intro pins s σ H x y v u Q I rx ry h
  obtain ⟨a, dx, fs, tb, rfl, ha, ty, hn, h⟩ := h
  cases (show v = Value.ref a from rx)
  obtain ⟨mA, J, _⟩ := ins_get I.hok ha
  obtain ⟨od, J, _⟩ := J.look
  obtain ⟨m, hF⟩ := I.fr
  show wpAny (model X.prog X.w) X.A (richCompare .Eq (.ref a) u) (EP X pins σ Q) X.xe s
  exact PySem.W.cmp_K (op := .Eq) hr.units0 hF I.ok.mod.kin J (ty.looks I ry) hn O.at_ O.fn (own_run F hb hx hr I (x := .ref a) (v := .ref a) rfl ry h)
/-- a scalar on the left, an instance with its own == on the right -/
theorem op_eqR {X : Cx} {n : Nat} {CX : CXT} {C f : Addr} {fd : FuncData} {ps : List Str} {sp : Sp} {E : XK} (O : OwnEq X.K C f) (F : FnOk X.prog X.w X.K X.mg X.base CX n f fd ps sp) (hb : Binds X.K fd ps []) (hx : Passes CX X E) (hr : Room n X.A)
    (h1 : PySem.W.subIn X.K (.ref C) (.type "NoneType") = some false) (h2 : PySem.W.subIn X.K (.ref C) (.type "int") = some false) (h3 : PySem.W.subIn X.K (.ref C) (.type "str") = some false) :
    OpR X (compareOp .Eq) (fun x y H Q => ∃ a dx fs, y = .ref a ∧ H a = some (.ins C dx fs) ∧ (x = .non ∨ (∃ i, x = .int i) ∨ ∃ z, x = .str z) ∧ sp [y, x] H (fun z H' => ∃ b, z = .bl b ∧ Q (.bl b) H') E) := by
  intro pins s σ H x y v u Q I rx ry h
  obtain ⟨a, dx, fs, rfl, ha, hx', h⟩ := h
  cases (show u = Value.ref a from ry)
  obtain ⟨mA, J, _⟩ := ins_get I.hok ha
  have hob := J.obj
  obtain ⟨od, J, _⟩ := J.look
  obtain ⟨m, hF⟩ := I.fr
  show wpAny (model X.prog X.w) X.A (richCompare .Eq v (.ref a)) (EP X pins σ Q) X.xe s
  have hc := own_run F hb hx hr I (x := .ref a) (v := .ref a) (u := v) rfl rx h
  rcases hx' with rfl | ⟨i, rfl⟩ | ⟨z, rfl⟩
  · cases (show v = Value.none from rx)
    exact cmp_back hr.units0 hF I.ok.mod.kin J (Ta := "NoneType") rfl PySem.F.slot_NoneType_eq h1 (fun Q' hq => call_gives PySem.F.slot_NoneType_eq rfl PySem.F.entry_NoneType_eq (PySem.F.args_NoneType_eq_2 _ _) (SeqAt.NoneType___eq___none_ref_0 a) hq) O.at_ O.fn hc
  · obtain ⟨t, rfl⟩ := (show ∃ t, v = Value.int i t from rx)
    exact cmp_back hr.units0 hF I.ok.mod.kin J (Ta := "int") (typeIs_int s i t) PySem.F.slot_int_eq h2 (fun Q' hq => call_meets PySem.F.slot_int_eq (typeIs_int s i t) PySem.F.entry_int_eq (PySem.F.args_int_eq_2 _ _) (int_eq_declines_ins i t a _) ⟨hob, rfl, ⟨_, rfl⟩, hq⟩) O.at_ O.fn hc
  · obtain ⟨t, rfl⟩ := (show ∃ t, v = Value.str z t from rx)
    exact cmp_back hr.units0 hF I.ok.mod.kin J (Ta := "str") (typeIs_str s z t) PySem.F.slot_str_eq h3 (fun Q' hq => call_meets PySem.F.slot_str_eq (typeIs_str s z t) PySem.F.entry_str_eq (PySem.F.args_str_eq_2 _ _) (str_eq_declines_ins z t a _) ⟨hob, rfl, ⟨_, rfl⟩, hq⟩) O.at_ O.fn hc
end My
namespace My
open PySem L2 SX XT XS XE
open C8 (pss_cut tCut cutS_slice pe_gc)
/-! ### values -/
inductive Dv where
  | non
  | bl (b : Bool)
  | int (i : Int)
  | str (x : Str)
  | obj (n : Nat)
  | bi (x : Str)
  deriving DecidableEq
abbrev refF (n : Nat) : List (Str × V) := [("number", .int (n : Nat))]
def Has (A : Ads) (H : Hp) : V → Dv → Prop := fun v d => match d with
  | .non => v = .non
  | .bl b => v = .bl b
  | .int i => v = .int i
  | .str x => v = .str x
  | .obj n => ∃ a dx, v = .ref a ∧ H a = some (.ins A.Ref dx (refF n))
  | .bi x => ∃ a dx, v = .ref a ∧ H a = some (.ins A.Builtin dx [("name", .str x)])
/-- what is not a list stays -/
def Sv (H H' : Hp) : Prop := ∀ b u, H b = some u → (∀ xs, u ≠ .lst xs) → H' b = some u
theorem Same.sv {H H' : Hp} (s : Same H H') : Sv H H' := fun b u e _ => s b u e
theorem Sv.trans {H H1 H2 : Hp} (a : Sv H H1) (b : Sv H1 H2) : Sv H H2 := fun c u e n => b c u (a c u e n) n
theorem Keep.sv {H H' : Hp} {p : Addr} {xs : List V} (k : Keep p H H') (hp : H p = some (.lst xs)) : Sv H H' := fun b u e n => k b u e fun z => by
  rw [z, hp] at e
  exact n _ (Option.some.inj e).symm
theorem Has.sv {A : Ads} {H H' : Hp} (s : Sv H H') {v : V} {d : Dv} (h : Has A H v d) : Has A H' v d := by
  cases d with
  | obj n =>
    obtain ⟨a, dx, rfl, e⟩ := h
    exact ⟨a, dx, rfl, s _ _ e fun _ z => by cases z⟩
  | bi x =>
    obtain ⟨a, dx, rfl, e⟩ := h
    exact ⟨a, dx, rfl, s _ _ e fun _ z => by cases z⟩
  | _ => exact h
def Hs (A : Ads) (H : Hp) : List V → List Dv → Prop
  | [], [] => True
  | v :: vs, d :: ds => Has A H v d ∧ Hs A H vs ds
  | _, _ => False
theorem Hs.imp {A : Ads} {H H' : Hp} (s : ∀ v d, Has A H v d → Has A H' v d) : ∀ {vs : List V} {ds : List Dv}, Hs A H vs ds → Hs A H' vs ds
  | [], [], _ => trivial
  | _ :: _, _ :: _, h => ⟨s _ _ h.1, Hs.imp s h.2⟩
  | [], _ :: _, h => h.elim
  | _ :: _, [], h => h.elim
theorem Hs.len {A : Ads} {H : Hp} : ∀ {vs : List V} {ds : List Dv}, Hs A H vs ds → vs.length = ds.length
  | [], [], _ => rfl
  | _ :: _, _ :: _, h => congrArg (· + 1) (Hs.len h.2)
  | [], _ :: _, h => h.elim
  | _ :: _, [], h => h.elim
theorem Hs.at {A : Ads} {H : Hp} : ∀ {vs : List V} {ds : List Dv} {i : Nat} {d : Dv}, Hs A H vs ds → ds[i]? = some d → ∃ v, vs[i]? = some v ∧ Has A H v d
  | _ :: _, _ :: _, 0, _, h, e => by
    simp at e
    exact ⟨_, rfl, e ▸ h.1⟩
  | _ :: _, _ :: _, i + 1, _, h, e => by
    simp at e
    obtain ⟨v, e1, e2⟩ := Hs.at h.2 e
    exact ⟨v, by simpa using e1, e2⟩
  | [], _ :: _, _, _, h, _ => h.elim
  | _ :: _, [], _, _, h, _ => h.elim
  | [], [], _, _, _, e => by simp at e
theorem Hs.app {A : Ads} {H : Hp} : ∀ {vs us : List V} {ds es : List Dv}, Hs A H vs ds → Hs A H us es → Hs A H (vs ++ us) (ds ++ es)
  | [], _, [], _, _, h => h
  | _ :: _, _, _ :: _, _, h, g => ⟨h.1, Hs.app h.2 g⟩
  | [], _, _ :: _, _, h, _ => h.elim
  | _ :: _, _, [], _, h, _ => h.elim
theorem Hs.rev {A : Ads} {H : Hp} : ∀ {vs : List V} {ds : List Dv}, Hs A H vs ds → Hs A H vs.reverse ds.reverse
  | [], [], _ => trivial
  | v :: vs, d :: ds, h => by
    rw [List.reverse_cons, List.reverse_cons]
    exact (Hs.rev h.2).app ⟨h.1, trivial⟩
  | [], _ :: _, h => h.elim
  | _ :: _, [], h => h.elim
theorem Hs.drop {A : Ads} {H : Hp} : ∀ {vs : List V} {ds : List Dv} (n : Nat), Hs A H vs ds → Hs A H (vs.drop n) (ds.drop n)
  | _, _, 0, h => by simpa using h
  | [], [], _ + 1, _ => trivial
  | _ :: _, _ :: _, n + 1, h => Hs.drop n h.2
  | [], _ :: _, _ + 1, h => h.elim
  | _ :: _, [], _ + 1, h => h.elim
theorem Hs.take {A : Ads} {H : Hp} : ∀ {vs : List V} {ds : List Dv} (n : Nat), Hs A H vs ds → Hs A H (vs.take n) (ds.take n)
  | _, _, 0, _ => by simp [Hs]
  | [], [], _ + 1, _ => trivial
  | _ :: _, _ :: _, n + 1, h => ⟨h.1, Hs.take n h.2⟩
  | [], _ :: _, _ + 1, h => h.elim
  | _ :: _, [], _ + 1, h => h.elim
/-! ### kinds -/
def dB : Dv → Bool
  | .bl _ => true
  | _ => false
def dI : Dv → Bool
  | .bl _ => true
  | .int _ => true
  | _ => false
def dS : Dv → Bool
  | .str _ => true
  | _ => false
def dR : Dv → Bool
  | .obj _ => true
  | _ => false
def dBi : Dv → Bool
  | .bi _ => true
  | _ => false
def tyD (A : Ads) : Dv → Value
  | .non => .type "NoneType"
  | .bl _ => .type "bool"
  | .int _ => .type "int"
  | .str _ => .type "str"
  | .obj _ => .ref A.Ref
  | .bi _ => .ref A.Builtin
section
variable {P : Program} {w : World} {K : PySem.W.Frag} {mg : Str → Option Value} {base : Heap} {A : Ads}
theorem has_ty (L : Lib P K mg A) {H : Hp} {v : V} {d : Dv} (h : Has A H v d) : TyX K H v (tyD A d) := by
  cases d with
  | non => cases h; exact .base .non
  | bl b => cases h; exact .base (.bl b)
  | int b => cases h; exact .base (.int b)
  | str b => cases h; exact .base (.str b)
  | obj n =>
    obtain ⟨a, dx, rfl, h⟩ := h
    exact L.c_Ref.ty h
  | bi n =>
    obtain ⟨a, dx, rfl, h⟩ := h
    exact L.c_Builtin.ty h
theorem kit_bool (L : Lib P K mg A) (d : Dv) : PySem.W.kitOne K (tyD A d) (.type "bool") = some (dB d) := by
  cases d with
  | non => exact kit_ty (show kitB "NoneType" "bool" = some false by decide +kernel)
  | bl b => exact kit_ty (show kitB "bool" "bool" = some true by decide +kernel)
  | int b => exact kit_ty (show kitB "int" "bool" = some false by decide +kernel)
  | str b => exact kit_ty (show kitB "str" "bool" = some false by decide +kernel)
  | obj n => exact L.k_Ref_bool
  | bi n => exact L.k_Builtin_bool
theorem kit_int (L : Lib P K mg A) (d : Dv) : PySem.W.kitOne K (tyD A d) (.type "int") = some (dI d) := by
  cases d with
  | non => exact kit_ty (show kitB "NoneType" "int" = some false by decide +kernel)
  | bl b => exact kit_ty (show kitB "bool" "int" = some true by decide +kernel)
  | int b => exact kit_ty (show kitB "int" "int" = some true by decide +kernel)
  | str b => exact kit_ty (show kitB "str" "int" = some false by decide +kernel)
  | obj n => exact L.k_Ref_int
  | bi n => exact L.k_Builtin_int
theorem kit_str (L : Lib P K mg A) (d : Dv) : PySem.W.kitOne K (tyD A d) (.type "str") = some (dS d) := by
  cases d with
  | non => exact kit_ty (show kitB "NoneType" "str" = some false by decide +kernel)
  | bl b => exact kit_ty (show kitB "bool" "str" = some false by decide +kernel)
  | int b => exact kit_ty (show kitB "int" "str" = some false by decide +kernel)
  | str b => exact kit_ty (show kitB "str" "str" = some true by decide +kernel)
  | obj n => exact L.k_Ref_str
  | bi n => exact L.k_Builtin_str
theorem kit_R (L : Lib P K mg A) (d : Dv) : PySem.W.kitOne K (tyD A d) (.ref A.Ref) = some (dR d) := by
  cases d with
  | non => exact L.k_NoneType_Ref
  | bl b => exact L.k_bool_Ref
  | int b => exact L.k_int_Ref
  | str b => exact L.k_str_Ref
  | obj n => exact kit_self _
  | bi n => exact L.k_Builtin_Ref
theorem kit_B (L : Lib P K mg A) (d : Dv) : PySem.W.kitOne K (tyD A d) (.ref A.Builtin) = some (dBi d) := by
  cases d with
  | non => exact L.k_NoneType_Builtin
  | bl b => exact L.k_bool_Builtin
  | int b => exact L.k_int_Builtin
  | str b => exact L.k_str_Builtin
  | obj n => exact L.k_Ref_Builtin
  | bi n => exact kit_self _
theorem kit_list_list {K : PySem.W.Frag} : PySem.W.kitOne K (.type "list") (.type "list") = some true := kit_ty (show kitB "list" "list" = some true by decide +kernel)
/-! ### Ref, Builtin -/
def spI1 (C : Addr) (n : Str) : Sp := fun vs H Q _ => ∃ a dx v, vs = [.ref a, v] ∧ H a = some (.ins C dx []) ∧ ∀ H', Keep a H H' → H' a = some (.ins C dx [(n, v)]) → Q .non H'
theorem ok_Ref_init (L : Lib P K mg A) : FnOk P w K mg base CX0 1 L.Ref_init.f L.Ref_init.fd ["self", "number"] (spI1 A.Ref "number") := by
  refine L.Ref_init.F.ok sc_Ref_init (fun vs H Q E h => ?_) (fun cdv A' outer s H vs Q E hr h => ?_)
  · obtain ⟨a, dx, v, rfl, _⟩ := h
    rfl
  · obtain ⟨a, dx, v, rfl, ha, q⟩ := h
    refine ⟨_, (pss_one (ps_fld (pv 0) (pv 1) rfl)), ?_⟩
    exact ⟨_, rfl, _, rfl, a, A.Ref, dx, [], rfl, ha, L.c_Ref.cl, L.n_Ref_number, (by show 0 < 1000; decide), q _ keep_upd upd_same⟩
theorem ok_Builtin_init (L : Lib P K mg A) : FnOk P w K mg base CX0 1 L.Builtin_init.f L.Builtin_init.fd ["self", "name"] (spI1 A.Builtin "name") := by
  refine L.Builtin_init.F.ok sc_Builtin_init (fun vs H Q E h => ?_) (fun cdv A' outer s H vs Q E hr h => ?_)
  · obtain ⟨a, dx, v, rfl, _⟩ := h
    rfl
  · obtain ⟨a, dx, v, rfl, ha, q⟩ := h
    refine ⟨_, (pss_one (ps_fld (pv 0) (pv 1) rfl)), ?_⟩
    exact ⟨_, rfl, _, rfl, a, A.Builtin, dx, [], rfl, ha, L.c_Builtin.cl, L.n_Builtin_name, (by show 0 < 1000; decide), q _ keep_upd upd_same⟩
def spERq (A : Ads) : Sp := fun vs H Q _ => ∃ a dx n y d, vs = [.ref a, y] ∧ H a = some (.ins A.Ref dx (refF n)) ∧ Has A H y d ∧ Q (.bl (decide (Dv.obj n = d))) H
theorem ok_Ref_eq (L : Lib P K mg A) : FnOk P w K mg base CX0 1 L.Ref_eq.f L.Ref_eq.fd ["self", "other"] (spERq A) := by
  refine L.Ref_eq.F.ok sc_Ref_eq (fun vs H Q E h => ?_) (fun cdv A' outer s H vs Q E hr h => ?_)
  · obtain ⟨a, dx, n, y, d, rfl, _⟩ := h
    rfl
  · obtain ⟨a, dx, n, y, d, rfl, ha, hy, q⟩ := h
    refine ⟨_, (pss_one (ps_ret (pe_and (pe_callB call_isi (by rfl) L.z_isinstance (by decide +kernel) (pa_cons (pv 1) (pa_cons (pe_gc (v := .ref A.Ref) (by rfl) ⟨_, L.c_Ref.g, rfl⟩) pa_nil))) (pe_one (pe_cmpR op_eq (pe_fld (pv 0) rfl) (pe_fld (pv 1) rfl) (nomark _)))))), ?_⟩
    refine ⟨_, rfl, y, .ref A.Ref, tyD A d, .ref A.Ref, dR d, rfl, .own _, has_ty L hy, kit_R L d, dR d, rfl, ?_⟩
    cases d with
    | obj m =>
      obtain ⟨b, dy, rfl, hb⟩ := hy
      refine iteT ⟨_, rfl, a, A.Ref, dx, _, _, rfl, ha, L.c_Ref.cl, L.n_Ref_number, lk_hit, _, rfl, b, A.Ref, dy, _, _, rfl, hb, L.c_Ref.cl, L.n_Ref_number, lk_hit, rfl, ?_⟩
      rw [show decide (V.int (n : Nat) = V.int (m : Nat)) = decide (Dv.obj n = Dv.obj m) by simp; omega]
      exact q
    | _ => exact iteF (by simpa using q)
def spEBq (A : Ads) : Sp := fun vs H Q _ => ∃ a dx n y d, vs = [.ref a, y] ∧ H a = some (.ins A.Builtin dx [("name", .str n)]) ∧ Has A H y d ∧ Q (.bl (decide (Dv.bi n = d))) H
theorem ok_Builtin_eq (L : Lib P K mg A) : FnOk P w K mg base CX0 1 L.Builtin_eq.f L.Builtin_eq.fd ["self", "other"] (spEBq A) := by
  refine L.Builtin_eq.F.ok sc_Builtin_eq (fun vs H Q E h => ?_) (fun cdv A' outer s H vs Q E hr h => ?_)
  · obtain ⟨a, dx, n, y, d, rfl, _⟩ := h
    rfl
  · obtain ⟨a, dx, n, y, d, rfl, ha, hy, q⟩ := h
    refine ⟨_, (pss_one (ps_ret (pe_and (pe_callB call_isi (by rfl) L.z_isinstance (by decide +kernel) (pa_cons (pv 1) (pa_cons (pe_gc (v := .ref A.Builtin) (by rfl) ⟨_, L.c_Builtin.g, rfl⟩) pa_nil))) (pe_one (pe_cmpR op_eq (pe_fld (pv 0) rfl) (pe_fld (pv 1) rfl) (nomark _)))))), ?_⟩
    refine ⟨_, rfl, y, .ref A.Builtin, tyD A d, .ref A.Builtin, dBi d, rfl, .own _, has_ty L hy, kit_B L d, dBi d, rfl, ?_⟩
    cases d with
    | bi m =>
      obtain ⟨b, dy, rfl, hb⟩ := hy
      refine iteT ⟨_, rfl, a, A.Builtin, dx, _, _, rfl, ha, L.c_Builtin.cl, L.n_Builtin_name, lk_hit, _, rfl, b, A.Builtin, dy, _, _, rfl, hb, L.c_Builtin.cl, L.n_Builtin_name, lk_hit, rfl, ?_⟩
      rw [show decide (V.str n = V.str m) = decide (Dv.bi n = Dv.bi m) by simp]
      exact q
    | _ => exact iteF (by simpa using q)
/-- == of two values, of which either both are booleans or none is -/
def rEqM (A : Ads) : R2 := fun x y H Q => ∃ d e, Has A H x d ∧ Has A H y e ∧ dB d = dB e ∧ Q (.bl (decide (d = e))) H
theorem op_eqM {X : Cx} (L : Lib X.prog X.K X.mg A) (hr : Room 1 X.A) : OpR X (compareOp .Eq) (rEqM A) := by
  have FR : FnOk X.prog X.w X.K X.mg X.base CX0 1 L.Ref_eq.f L.Ref_eq.fd ["self", "other"] (spERq A) := ok_Ref_eq L
  have FB : FnOk X.prog X.w X.K X.mg X.base CX0 1 L.Builtin_eq.f L.Builtin_eq.fd ["self", "other"] (spEBq A) := ok_Builtin_eq L
  intro pins s σ H x y v u Q I rx ry h
  obtain ⟨d, e, hd, he, hb, q⟩ := h
  have tyE : ∀ {z : V} {g : Dv}, Has A H z g → TyE H z (tyD A g) := by
    intro z g hz
    cases g with
    | non => cases hz; exact .non
    | bl b => cases hz; exact .bl b
    | int b => cases hz; exact .int b
    | str b => cases hz; exact .str b
    | obj n =>
      obtain ⟨a, dx, rfl, hz⟩ := hz
      exact .ins hz
    | bi n =>
      obtain ⟨a, dx, rfl, hz⟩ := hz
      exact .ins hz
  have nfR : dB e = false → PySem.W.notFirst X.K A.Ref (tyD A e) = true := by
    intro z
    cases e with
    | non => exact L.nf_Ref_NoneType
    | bl b => cases z
    | int b => exact L.nf_Ref_int
    | str b => exact L.nf_Ref_str
    | obj n => exact nf_self _
    | bi n => exact L.nf_Ref_Builtin
  have nfB : dB e = false → PySem.W.notFirst X.K A.Builtin (tyD A e) = true := by
    intro z
    cases e with
    | non => exact L.nf_Builtin_NoneType
    | bl b => cases z
    | int b => exact L.nf_Builtin_int
    | str b => exact L.nf_Builtin_str
    | obj n => exact L.nf_Builtin_Ref
    | bi n => exact nf_self _
  cases hdd : d with
  | obj n =>
    subst hdd
    obtain ⟨a, dx, rfl, ha⟩ := hd
    exact op_eqL L.Ref_eq.m FR L.Ref_eq.b (E := E0) pass0 hr pins s σ H _ y v u Q I rx ry ⟨a, dx, _, _, rfl, ha, tyE he, nfR hb.symm, a, dx, n, y, e, rfl, ha, he, _, rfl, q⟩
  | bi n =>
    subst hdd
    obtain ⟨a, dx, rfl, ha⟩ := hd
    exact op_eqL L.Builtin_eq.m FB L.Builtin_eq.b (E := E0) pass0 hr pins s σ H _ y v u Q I rx ry ⟨a, dx, _, _, rfl, ha, tyE he, nfB hb.symm, a, dx, n, y, e, rfl, ha, he, _, rfl, q⟩
  | _ =>
    subst hdd
    cases hee : e with
    | obj n =>
      subst hee
      obtain ⟨a, dx, rfl, ha⟩ := he
      first
        | (cases hb; done)
        | exact op_eqR L.Ref_eq.m FR L.Ref_eq.b (E := E0) pass0 hr L.su_Ref_NoneType L.su_Ref_int L.su_Ref_str pins s σ H _ _ v u Q I rx ry ⟨a, dx, _, rfl, ha, (by first | exact .inl hd | exact .inr (.inl ⟨_, hd⟩) | exact .inr (.inr ⟨_, hd⟩)), a, dx, n, _, _, rfl, ha, hd, _, rfl, by simpa [eq_comm] using q⟩
    | bi n =>
      subst hee
      obtain ⟨a, dx, rfl, ha⟩ := he
      first
        | (cases hb; done)
        | exact op_eqR L.Builtin_eq.m FB L.Builtin_eq.b (E := E0) pass0 hr L.su_Builtin_NoneType L.su_Builtin_int L.su_Builtin_str pins s σ H _ _ v u Q I rx ry ⟨a, dx, _, rfl, ha, (by first | exact .inl hd | exact .inr (.inl ⟨_, hd⟩) | exact .inr (.inr ⟨_, hd⟩)), a, dx, n, _, _, rfl, ha, hd, _, rfl, by simpa [eq_comm] using q⟩
    | _ =>
      subst hee
      cases hd
      cases he
      first
        | (cases hb; done)
        | exact op_eq pins s σ H _ _ v u Q I rx ry ⟨(by rfl), by simpa using q⟩
end
end My
namespace My
open PySem L2 SX XT XS XE
open C8 (pss_cut tCut cutS_slice pe_gc)
def tabF (d : Addr) : List (Str × V) := [("_entries", .ref d)]
structure TblAt (P : Program) (w : World) (A : Ads) (H : Hp) (t : Addr) (d : Addr) (es : List Ent) : Prop where
  ins : ∃ dx, H t = some (.ins A.Table dx (tabF d))
  tab : XT.TabAt P w H d es
  vals : ∀ e ∈ es, ∃ q, e.2.2 = .ref q ∧ ∃ v, H q = some (.tup [e.1, v])
section
variable {P : Program} {w : World} {K : PySem.W.Frag} {mg : Str → Option Value} {base : Heap} {A : Ads}
theorem kit_bool_bool : PySem.W.kitOne K (.type "bool") (.type "bool") = some true := kit_ty (show kitB "bool" "bool" = some true by decide +kernel)
theorem kit_int_bool : PySem.W.kitOne K (.type "int") (.type "bool") = some false := kit_ty (show kitB "int" "bool" = some false by decide +kernel)
theorem kit_str_bool : PySem.W.kitOne K (.type "str") (.type "bool") = some false := kit_ty (show kitB "str" "bool" = some false by decide +kernel)
theorem kit_non_bool : PySem.W.kitOne K (.type "NoneType") (.type "bool") = some false := kit_ty (show kitB "NoneType" "bool" = some false by decide +kernel)
theorem units64 {A : Around} {k : Nat} (hr : Room k A) : A.units + 64 < cLine := hr.units
theorem tab_lk (d : Addr) : (tabF d).lookup ("_entries" : Str) = some (.ref d) := lk_hit
theorem tab_none {d : Addr} {n : Str} (h : (n == ("_entries" : Str)) = false) : (tabF d).lookup n = none := by
  simp [tabF, List.lookup, h]
theorem TblAt.same {H H' : Hp} {t d : Addr} {es : List Ent} (s : Same H H') (h : TblAt P w A H t d es) : TblAt P w A H' t d es := by
  obtain ⟨⟨dx, h1⟩, h2, h3⟩ := h
  refine ⟨⟨dx, s _ _ h1⟩, ⟨s _ _ h2.at_, fun e he => ⟨(h2.keys e he).1, s _ _ (h2.keys e he).2⟩, h2.len⟩, fun e he => ?_⟩
  obtain ⟨q, e1, v, e2⟩ := h3 e he
  exact ⟨q, e1, v, s _ _ e2⟩
def spTagged : Sp := fun vs H Q _ => ∃ k, vs = [k] ∧ keyOk k = true ∧ ∀ p, H p = none → Q (.ref p) (upd H p (.tup [.bl (isB k), k]))
theorem ok_tagged (L : Lib P K mg A) : FnOk P w K mg base CX0 1 L.tagged.f L.tagged.fd ["key"] spTagged := by
  refine L.tagged.F.ok sc_tagged (fun vs H Q E h => ?_) (fun cdv A' outer s H vs Q E hr h => ?_)
  · obtain ⟨k, rfl, _⟩ := h
    rfl
  · obtain ⟨k, rfl, hk, q⟩ := h
    refine ⟨_, (pss_one (ps_ret (pe_tup (pa_cons (pe_callB call_isi (by rfl) L.z_isinstance (by decide +kernel) (pa_cons (pv 0) (pa_cons (pe_bltn (v := .ty "bool") (by rfl) L.z_bool (by decide +kernel) rfl) pa_nil))) (pa_cons (pv 0) pa_nil))))), ?_⟩
    cases k with
    | non => exact ⟨_, rfl, _, .ty "bool", _, _, false, rfl, .ty _, .base .non, kit_non_bool, _, rfl, (by show 2 ≤ sizeLine; decide), fun p np => q p np⟩
    | bl b => exact ⟨_, rfl, _, .ty "bool", _, _, true, rfl, .ty _, .base (.bl b), kit_bool_bool, _, rfl, (by show 2 ≤ sizeLine; decide), fun p np => q p np⟩
    | int i => exact ⟨_, rfl, _, .ty "bool", _, _, false, rfl, .ty _, .base (.int i), kit_int_bool, _, rfl, (by show 2 ≤ sizeLine; decide), fun p np => q p np⟩
    | str x => exact ⟨_, rfl, _, .ty "bool", _, _, false, rfl, .ty _, .base (.str x), kit_str_bool, _, rfl, (by show 2 ≤ sizeLine; decide), fun p np => q p np⟩
    | _ => cases hk
def spTI (P : Program) (w : World) (A : Ads) : Sp := fun vs H Q _ => ∃ t dx, vs = [.ref t] ∧ H t = some (.ins A.Table dx []) ∧ ∀ H' d, Keep t H H' → H d = none → TblAt P w A H' t d [] → Q .non H'
theorem ok_Table_init (L : Lib P K mg A) : FnOk P w K mg base CX0 1 L.Table_init.f L.Table_init.fd ["self"] (spTI P w A) := by
  refine L.Table_init.F.ok sc_Table_init (fun vs H Q E h => ?_) (fun cdv A' outer s H vs Q E hr h => ?_)
  · obtain ⟨t, dx, rfl, _⟩ := h
    rfl
  · obtain ⟨t, dx, rfl, ha, q⟩ := h
    refine ⟨_, (pss_one (ps_fld (pv 0) pe_tnew rfl)), ?_⟩
    refine fun d nd => ⟨_, rfl, t, A.Table, dx, [], rfl, (by rw [upd_ne (ne_of_none ha nd)]; exact ha), L.c_Table.cl, L.n_Table__entries, (by show 0 < 1000; decide), ?_⟩
    have ntd : d ≠ t := fun z => by rw [z, ha] at nd; cases nd
    refine q _ d (fun b o e n => by rw [upd_ne n, upd_ne (ne_of_none e nd)]; exact e) nd ⟨⟨dx, upd_same⟩, ⟨by rw [upd_ne ntd, upd_same]; rfl, (fun e he => nomatch he), Nat.zero_le _⟩, (fun e he => nomatch he)⟩
/-- only new things were made -/
def spTHas (P : Program) (w : World) (A : Ads) : Sp := fun vs H Q _ => ∃ t d es k, vs = [.ref t, k] ∧ TblAt P w A H t d es ∧ keyOk k = true ∧ ∀ H', Same H H' → Q (.bl (valT es k).isSome) H'
theorem ok_Table_has (L : Lib P K mg A) : FnOk P w K mg base CX0 2 L.Table_has.f L.Table_has.fd ["self", "key"] (spTHas P w A) := by
  have G_tagged : FnOk P w K mg base CX0 1 L.tagged.f L.tagged.fd ["key"] spTagged := ok_tagged L
  refine L.Table_has.F.ok sc_Table_has (fun vs H Q E h => ?_) (fun cdv A' outer s H vs Q E hr h => ?_)
  · obtain ⟨t, d, es, k, rfl, _⟩ := h
    rfl
  · obtain ⟨t, d, es, k, rfl, T, hk, q⟩ := h
    refine ⟨_, (pss_one (ps_ret (pe_cmp (pc_tin (units64 hr) (pe_call G_tagged (hr.mono (by omega)) (by rfl) L.tagged.g L.tagged.F.kp L.tagged.b .nil pass0 (pa_cons (pv 1) pa_nil)) (pe_fld (pv 0) rfl))))), ?_⟩
    refine ⟨_, rfl, k, rfl, hk, fun p np => ?_⟩
    have u1 := same_upd (o := .tup [.bl (isB k), k]) np
    obtain ⟨⟨dx, h1⟩, h2, h3⟩ := T.same u1
    exact ⟨_, rfl, t, A.Table, dx, _, _, rfl, h1, L.c_Table.cl, L.n_Table__entries, tab_lk d, d, p, k, es, rfl, rfl, h2, ⟨hk, upd_same⟩, q _ u1⟩
def spTPut (P : Program) (w : World) (A : Ads) : Sp := fun vs H Q _ => ∃ t d es k v, vs = [.ref t, k, v] ∧ TblAt P w A H t d es ∧ keyOk k = true ∧ es.length < 1000000 ∧
  ∀ H' b q, Keep d H H' → TblAt P w A H' t d (putT es k b (.ref q)) → H' q = some (.tup [k, v]) → H q = none → Q .non H'
theorem ok_Table_put (L : Lib P K mg A) : FnOk P w K mg base CX0 2 L.Table_put.f L.Table_put.fd ["self", "key", "value"] (spTPut P w A) := by
  have G_tagged : FnOk P w K mg base CX0 1 L.tagged.f L.tagged.fd ["key"] spTagged := ok_tagged L
  refine L.Table_put.F.ok sc_Table_put (fun vs H Q E h => ?_) (fun cdv A' outer s H vs Q E hr h => ?_)
  · obtain ⟨t, d, es, k, v, rfl, _⟩ := h
    rfl
  · obtain ⟨t, d, es, k, v, rfl, T, hk, hl, kk⟩ := h
    refine ⟨_, (pss_one (ps_tput (units64 hr) (pe_fld (pv 0) rfl) (pe_call G_tagged (hr.mono (by omega)) (by rfl) L.tagged.g L.tagged.F.kp L.tagged.b .nil pass0 (pa_cons (pv 1) pa_nil)) (pe_tup (pa_cons (pv 1) (pa_cons (pv 2) pa_nil))) (by rfl))), ?_⟩
    refine ⟨_, rfl, _, rfl, (by show 2 ≤ sizeLine; decide), fun q nq => ?_⟩
    have u1 := same_upd (o := .tup [k, v]) nq
    obtain ⟨⟨dx, h1⟩, h2, h3⟩ := T.same u1
    refine ⟨_, rfl, t, A.Table, dx, _, _, rfl, h1, L.c_Table.cl, L.n_Table__entries, tab_lk d, _, rfl, k, rfl, hk, fun p np => ?_⟩
    have u2 := same_upd (o := .tup [.bl (isB k), k]) np
    obtain ⟨⟨dx2, g1⟩, g2, g3⟩ := (T.same u1).same u2
    refine ⟨d, p, k, es, rfl, rfl, g2, ⟨hk, upd_same⟩, ?_⟩
    have ntd : t ≠ d := fun z => by rw [z, g2.at_] at g1; cases g1
    have nqd : q ≠ d := fun z => by rw [z] at nq; rw [T.tab.at_] at nq; cases nq
    have hq2 := u2 _ _ (upd_same (H := H) (a := q) (o := .tup [k, v]))
    refine kk _ p q (fun b o e n => by rw [upd_ne n]; exact u2 _ _ (u1 _ _ e)) ⟨⟨dx2, by rw [upd_ne ntd]; exact g1⟩, g2.put ⟨hk, upd_same⟩ hl, fun e he => ?_⟩ (by rw [upd_ne nqd]; exact hq2) nq
    have old : ∀ e ∈ es, ∃ q', e.2.2 = .ref q' ∧ ∃ v', (upd (upd (upd H q (.tup [k, v])) p (.tup [.bl (isB k), k])) d (TabO P w d (putT es k p (.ref q)))) q' = some (.tup [e.1, v']) := fun e he => by
      obtain ⟨q', e1, v', e2⟩ := g3 e he
      exact ⟨q', e1, v', by rw [upd_ne (fun z => by rw [z, g2.at_] at e2; cases e2)]; exact e2⟩
    unfold putT at he
    split at he
    · obtain ⟨e0, h0, ee⟩ := List.mem_map.mp he
      split at ee
      · rename_i hk0
        subst ee
        exact ⟨q, rfl, v, by rw [upd_ne nqd, hk0]; exact hq2⟩
      · subst ee
        exact old e0 h0
    · rcases List.mem_append.mp he with he | he
      · exact old e he
      · rw [List.mem_singleton] at he
        subst he
        exact ⟨q, rfl, v, by rw [upd_ne nqd]; exact hq2⟩
def spTPairs (P : Program) (w : World) (A : Ads) : Sp := fun vs H Q _ => ∃ t d es, vs = [.ref t] ∧ TblAt P w A H t d es ∧ ∀ H' l, Same H H' → H l = none → H' l = some (.lst (es.map (·.2.2))) → Q (.ref l) H'
theorem ok_Table_pairs (L : Lib P K mg A) : FnOk P w K mg base CX0 1 L.Table_pairs.f L.Table_pairs.fd ["self"] (spTPairs P w A) := by
  refine L.Table_pairs.F.ok sc_Table_pairs (fun vs H Q E h => ?_) (fun cdv A' outer s H vs Q E hr h => ?_)
  · obtain ⟨t, d, es, rfl, _⟩ := h
    rfl
  · obtain ⟨t, d, es, rfl, T, kk⟩ := h
    refine ⟨_, (pss_one (ps_ret (pe_callTy (call_list_vals rfl) (by rfl) L.z_list (by decide +kernel) (pa_cons (pe_tvals (pe_fld (pv 0) rfl)) pa_nil)))), ?_⟩
    obtain ⟨⟨dx, h1⟩, h2, h3⟩ := id T
    refine ⟨_, rfl, t, A.Table, dx, _, _, rfl, h1, L.c_Table.cl, L.n_Table__entries, tab_lk d, d, es, rfl, h2, fun v nv => ?_⟩
    have u1 := same_upd (o := ViewO d v) nv
    refine ⟨v, d, es, rfl, upd_same, (T.same u1).tab, fun l nl => ?_⟩
    have u2 := same_upd (o := .lst (es.map (·.2.2))) nl
    refine kk _ l (u1.trans u2) ?_ upd_same
    cases e : H l with
    | none => rfl
    | some o =>
      rw [u1 _ _ e] at nl
      cases nl
def spTMany (P : Program) (w : World) (A : Ads) : Sp := fun vs H Q _ => ∃ t d es, vs = [.ref t] ∧ TblAt P w A H t d es ∧ Q (.int (es.length : Nat)) H
theorem ok_Table_many (L : Lib P K mg A) : FnOk P w K mg base CX0 1 L.Table_many.f L.Table_many.fd ["self"] (spTMany P w A) := by
  refine L.Table_many.F.ok sc_Table_many (fun vs H Q E h => ?_) (fun cdv A' outer s H vs Q E hr h => ?_)
  · obtain ⟨t, d, es, rfl, _⟩ := h
    rfl
  · obtain ⟨t, d, es, rfl, T, kk⟩ := h
    refine ⟨_, (pss_one (ps_ret (pe_callB call_len_tab (by rfl) L.z_len PySem.boot_len (pa_cons (pe_fld (pv 0) rfl) pa_nil)))), ?_⟩
    obtain ⟨⟨dx, h1⟩, h2, h3⟩ := id T
    exact ⟨_, rfl, t, A.Table, dx, _, _, rfl, h1, L.c_Table.cl, L.n_Table__entries, tab_lk d, d, es, rfl, h2, kk⟩
end
end My
namespace My
open PySem L2 SX XT XS XE
open C8 (pss_cut tCut cutS_slice pe_gc)
/-! ### things -/
def toV : Dv → V
  | .non => .non
  | .bl b => .bl b
  | .int i => .int i
  | .str x => .str x
  | _ => .non
def keyD : Dv → Bool
  | .obj _ => false
  | .bi _ => false
  | _ => true
theorem has_key {A : Ads} {H : Hp} {v : V} {d : Dv} (h : Has A H v d) (k : keyD d = true) : v = toV d ∧ keyOk v = true := by
  cases d with
  | obj n => cases k
  | bi x => cases k
  | _ => cases h; exact ⟨rfl, rfl⟩
theorem key_has {A : Ads} {H : Hp} {d : Dv} (k : keyD d = true) : Has A H (toV d) d := by
  cases d with
  | obj n => cases k
  | bi x => cases k
  | _ => rfl
theorem key_ok {d : Dv} (k : keyD d = true) : keyOk (toV d) = true := by
  cases d with
  | obj n => cases k
  | bi x => cases k
  | _ => rfl
theorem toV_inj {d e : Dv} (hd : keyD d = true) (he : keyD e = true) (h : toV d = toV e) : d = e := by
  cases d <;> cases e <;> first | rfl | (cases hd; done) | (cases he; done) | (cases h; rfl) | (cases h; done)
def Ents (A : Ads) (H : Hp) : List Ent → List (Dv × Dv) → Prop
  | [], [] => True
  | e :: es, p :: ps => (keyD p.1 = true ∧ e.1 = toV p.1 ∧ ∃ q v, e.2.2 = .ref q ∧ H q = some (.tup [e.1, v]) ∧ Has A H v p.2) ∧ Ents A H es ps
  | _, _ => False
inductive Th where
  | parts (ds : List Dv)
  | table (es : List (Dv × Dv))
  | inst (o : Dv) (ns : List (Str × Dv))
  | kin (nm : Str) (par : Dv) (ms : List (Str × Dv))
  | cursor (ds : List Dv)
  | clo
  | bou
def Nmd (A : Ads) (H : Hp) : List (Key × V) → List (Str × Dv) → Prop
  | [], [] => True
  | e :: es, p :: ps => (e.1 = .inr p.1 ∧ Has A H e.2 p.2) ∧ Nmd A H es ps
  | _, _ => False
def kinF (nm : Str) (v : V) (m : Addr) : List (Str × V) := [("name", .str nm), ("parent", v), ("methods", .ref m)]
def insF (v : V) (m : Addr) : List (Str × V) := [("owner", v), ("named", .ref m)]
def ThAt (P : Program) (w : World) (A : Ads) (H : Hp) (x m : Addr) : Th → Prop
  | .parts ds => ∃ dx vs, H x = some (.ins A.Parts dx [("held", .ref m)]) ∧ H m = some (.lst vs) ∧ Hs A H vs ds
  | .cursor ds => ∃ dx vs, H x = some (.ins A.Cursor dx [("rest", .ref m)]) ∧ H m = some (.lst vs) ∧ Hs A H vs ds
  | .table es => ∃ ents, TblAt P w A H x m ents ∧ Ents A H ents es ∧ (es.map Prod.fst).Nodup ∧ es.length ≤ 1000
  | .inst o ns => ∃ dx v kvs, H x = some (.ins A.Instance dx (insF v m)) ∧ Has A H v o ∧ H m = some (.dK kvs) ∧ Nmd A H kvs ns
  | .kin nm par ms => ∃ dx v kvs, H x = some (.ins A.Kin dx (kinF nm v m)) ∧ Has A H v par ∧ H m = some (.dK kvs) ∧ Nmd A H kvs ms
  | .clo => ∃ fs, H x = some (.ins A.Closure m fs) ∧ H m = some (.own x)
  | .bou => ∃ fs, H x = some (.ins A.Bound m fs) ∧ H m = some (.own x)
theorem Ents.imp {A : Ads} {H H' : Hp} (s : ∀ v d, Has A H v d → Has A H' v d) (t : ∀ q xs, H q = some (.tup xs) → H' q = some (.tup xs)) : ∀ {es : List Ent} {ps : List (Dv × Dv)}, Ents A H es ps → Ents A H' es ps
  | [], [], _ => trivial
  | _ :: _, _ :: _, ⟨⟨k, e, q, v, h1, h2, h3⟩, r⟩ => ⟨⟨k, e, q, v, h1, t _ _ h2, s _ _ h3⟩, Ents.imp s t r⟩
  | [], _ :: _, h => h.elim
  | _ :: _, [], h => h.elim
theorem Nmd.imp {A : Ads} {H H' : Hp} (s : ∀ v d, Has A H v d → Has A H' v d) : ∀ {es : List (Key × V)} {ps : List (Str × Dv)}, Nmd A H es ps → Nmd A H' es ps
  | [], [], _ => trivial
  | _ :: _, _ :: _, h => ⟨⟨h.1.1, s _ _ h.1.2⟩, Nmd.imp s h.2⟩
  | [], _ :: _, h => h.elim
  | _ :: _, [], h => h.elim
/-- values and tuples stay -/
structure Vk (A : Ads) (H H' : Hp) : Prop where
  v : ∀ v d, Has A H v d → Has A H' v d
  t : ∀ q xs, H q = some (.tup xs) → H' q = some (.tup xs)
theorem Sv.vk {A : Ads} {H H' : Hp} (s : Sv H H') : Vk A H H' := ⟨fun _ _ h => h.sv s, fun q xs e => s _ _ e fun _ z => by cases z⟩
theorem Vk.trans {A : Ads} {H H1 H2 : Hp} (a : Vk A H H1) (b : Vk A H1 H2) : Vk A H H2 := ⟨fun v d h => b.v v d (a.v v d h), fun q xs h => b.t q xs (a.t q xs h)⟩
theorem Vk.rfl' {A : Ads} {H : Hp} : Vk A H H := ⟨fun _ _ h => h, fun _ _ h => h⟩
section
variable {P : Program} {w : World} {K : PySem.W.Frag} {mg : Str → Option Value} {base : Heap} {A : Ads}
theorem ThAt.imp {H H' : Hp} (k : Vk A H H') {x m : Addr} {th : Th} (hx : ∀ u, H x = some u → H' x = some u) (hm : ∀ u, H m = some u → H' m = some u) (h : ThAt P w A H x m th) : ThAt P w A H' x m th := by
  cases th with
  | parts ds =>
    obtain ⟨dx, vs, h1, h2, h3⟩ := h
    exact ⟨dx, vs, hx _ h1, hm _ h2, h3.imp k.v⟩
  | cursor ds =>
    obtain ⟨dx, vs, h1, h2, h3⟩ := h
    exact ⟨dx, vs, hx _ h1, hm _ h2, h3.imp k.v⟩
  | table es =>
    obtain ⟨ents, ⟨⟨dx, h1⟩, h2, h3⟩, h4, h5⟩ := h
    refine ⟨ents, ⟨⟨dx, hx _ h1⟩, ⟨hm _ h2.at_, fun e he => ⟨(h2.keys e he).1, k.t _ _ (h2.keys e he).2⟩, h2.len⟩, fun e he => ?_⟩, h4.imp k.v k.t, h5⟩
    obtain ⟨q, e1, v, e2⟩ := h3 e he
    exact ⟨q, e1, v, k.t _ _ e2⟩
  | inst o ns =>
    obtain ⟨dx, v, kvs, h1, h2, h3, h4⟩ := h
    exact ⟨dx, v, kvs, hx _ h1, k.v _ _ h2, hm _ h3, h4.imp k.v⟩
  | kin nm par ms =>
    obtain ⟨dx, v, kvs, h1, h2, h3, h4⟩ := h
    exact ⟨dx, v, kvs, hx _ h1, k.v _ _ h2, hm _ h3, h4.imp k.v⟩
  | clo =>
    obtain ⟨fs, h1, h2⟩ := h
    exact ⟨fs, hx _ h1, hm _ h2⟩
  | bou =>
    obtain ⟨fs, h1, h2⟩ := h
    exact ⟨fs, hx _ h1, hm _ h2⟩
def clsT (A : Ads) : Th → Addr
  | .parts _ => A.Parts
  | .table _ => A.Table
  | .inst _ _ => A.Instance
  | .kin _ _ _ => A.Kin
  | .cursor _ => A.Cursor
  | .clo => A.Closure
  | .bou => A.Bound
theorem ThAt.x {H : Hp} {x m : Addr} {th : Th} (h : ThAt P w A H x m th) : ∃ dx fs, H x = some (.ins (clsT A th) dx fs) := by
  cases th with
  | parts ds => obtain ⟨dx, vs, h1, _⟩ := h; exact ⟨_, _, h1⟩
  | cursor ds => obtain ⟨dx, vs, h1, _⟩ := h; exact ⟨_, _, h1⟩
  | table es => obtain ⟨ents, ⟨⟨dx, h1⟩, _, _⟩, _⟩ := h; exact ⟨_, _, h1⟩
  | inst o ns => obtain ⟨dx, v, kvs, h1, _⟩ := h; exact ⟨_, _, h1⟩
  | kin nm par ms => obtain ⟨dx, v, kvs, h1, _⟩ := h; exact ⟨_, _, h1⟩
  | clo => obtain ⟨fs, h1, _⟩ := h; exact ⟨_, _, h1⟩
  | bou => obtain ⟨fs, h1, _⟩ := h; exact ⟨_, _, h1⟩
theorem ThAt.m {H : Hp} {x m : Addr} {th : Th} (h : ThAt P w A H x m th) : ∃ u, H m = some u ∧ (∀ C dx fs, u ≠ .ins C dx fs) ∧ ∀ xs, u ≠ .tup xs := by
  cases th with
  | parts ds => obtain ⟨dx, vs, _, h1, _⟩ := h; exact ⟨_, h1, nofun, nofun⟩
  | cursor ds => obtain ⟨dx, vs, _, h1, _⟩ := h; exact ⟨_, h1, nofun, nofun⟩
  | table es => obtain ⟨ents, ⟨_, h2, _⟩, _⟩ := h; exact ⟨_, h2.at_, nofun, nofun⟩
  | inst o ns => obtain ⟨dx, v, kvs, _, _, h1, _⟩ := h; exact ⟨_, h1, nofun, nofun⟩
  | kin nm par ms => obtain ⟨dx, v, kvs, _, _, h1, _⟩ := h; exact ⟨_, h1, nofun, nofun⟩
  | clo => obtain ⟨fs, _, h1⟩ := h; exact ⟨_, h1, nofun, nofun⟩
  | bou => obtain ⟨fs, _, h1⟩ := h; exact ⟨_, h1, nofun, nofun⟩
theorem clsT_ne (L : Lib P K mg A) (th : Th) : clsT A th ≠ A.Ref ∧ clsT A th ≠ A.Builtin := by
  cases th with
  | parts ds => exact ⟨ne_cls L.k_Parts_Ref, ne_cls L.k_Parts_Builtin⟩
  | cursor ds => exact ⟨ne_cls L.k_Cursor_Ref, ne_cls L.k_Cursor_Builtin⟩
  | table es => exact ⟨ne_cls L.k_Table_Ref, ne_cls L.k_Table_Builtin⟩
  | inst o ns => exact ⟨ne_cls L.k_Instance_Ref, ne_cls L.k_Instance_Builtin⟩
  | kin nm par ms => exact ⟨ne_cls L.k_Kin_Ref, ne_cls L.k_Kin_Builtin⟩
  | clo => exact ⟨ne_cls L.k_Closure_Ref, ne_cls L.k_Closure_Builtin⟩
  | bou => exact ⟨ne_cls L.k_Bound_Ref, ne_cls L.k_Bound_Builtin⟩
/-! ### the store -/
structure St where
  things : List Th
  out : List Str
  lines : List Str
  taken : Nat
def stF (t o l : Addr) (n : Nat) : List (Str × V) := [("things", .ref t), ("output", .ref o), ("lines", .ref l), ("taken", .int (n : Nat))]
theorem st_things (t o l : Addr) (n : Nat) : (stF t o l n).lookup ("things" : Str) = some (.ref t) := lk_hit
theorem st_output (t o l : Addr) (n : Nat) : (stF t o l n).lookup ("output" : Str) = some (.ref o) := by
  unfold stF
  rw [lk_skip (by decide +kernel)]
  exact lk_hit
theorem st_lines (t o l : Addr) (n : Nat) : (stF t o l n).lookup ("lines" : Str) = some (.ref l) := by
  unfold stF
  rw [lk_skip (by decide +kernel), lk_skip (by decide +kernel)]
  exact lk_hit
theorem st_taken (t o l : Addr) (n : Nat) : (stF t o l n).lookup ("taken" : Str) = some (.int (n : Nat)) := by
  unfold stF
  rw [lk_skip (by decide +kernel), lk_skip (by decide +kernel), lk_skip (by decide +kernel)]
  exact lk_hit
theorem st_no {n : Str} (t o l : Addr) (k : Nat) (h1 : (n == ("things" : Str)) = false) (h2 : (n == ("output" : Str)) = false) (h3 : (n == ("lines" : Str)) = false) (h4 : (n == ("taken" : Str)) = false) : (stF t o l k).lookup n = none := by
  unfold stF
  rw [lk_skip h1, lk_skip h2, lk_skip h3, lk_skip h4]
  rfl
/-- the addresses of a store -/
structure Sa where
  s : Addr
  t : Addr
  o : Addr
  l : Addr
  X : List Addr
  M : List Addr
def Sa.own (a : Sa) (b : Addr) : Prop := b = a.s ∨ b = a.t ∨ b = a.o ∨ b = a.l ∨ b ∈ a.X ∨ b ∈ a.M
structure SM (P : Program) (w : World) (A : Ads) (H : Hp) (a : Sa) (S : St) : Prop where
  s_ : ∃ dx, H a.s = some (.ins A.Store dx (stF a.t a.o a.l S.taken))
  t_ : H a.t = some (.lst (a.X.map V.ref))
  o_ : H a.o = some (.lst (S.out.map V.str))
  l_ : H a.l = some (.lst (S.lines.map V.str))
  lx : a.X.length = S.things.length
  lm : a.M.length = S.things.length
  th : ∀ (i : Nat) x m d, a.X[i]? = some x → a.M[i]? = some m → S.things[i]? = some d → ThAt P w A H x m d
  nd : (a.t :: a.o :: a.l :: a.M).Nodup
  nx : a.X.Nodup
theorem SM.get {H : Hp} {a : Sa} {S : St} (h : SM P w A H a S) {i : Nat} {d : Th} (e : S.things[i]? = some d) : ∃ x m, a.X[i]? = some x ∧ a.M[i]? = some m ∧ ThAt P w A H x m d := by
  have hi := (List.getElem?_eq_some_iff.mp e).1
  have h1 : i < a.X.length := by rw [h.lx]; exact hi
  have h2 : i < a.M.length := by rw [h.lm]; exact hi
  exact ⟨a.X[i], a.M[i], List.getElem?_eq_getElem h1, List.getElem?_eq_getElem h2, h.th i _ _ d (List.getElem?_eq_getElem h1) (List.getElem?_eq_getElem h2) e⟩
theorem SM.xs {H : Hp} {a : Sa} {S : St} (h : SM P w A H a S) {x : Addr} (e : x ∈ a.X) : ∃ th m, ThAt P w A H x m th := by
  obtain ⟨i, hi, e⟩ := List.getElem_of_mem e
  have h1 : i < S.things.length := by rw [← h.lx]; exact hi
  obtain ⟨x', m, e1, e2, t⟩ := h.get (List.getElem?_eq_getElem h1)
  rw [List.getElem?_eq_getElem hi] at e1
  cases e1
  rw [e] at t
  exact ⟨_, m, t⟩
theorem SM.ms {H : Hp} {a : Sa} {S : St} (h : SM P w A H a S) {m : Addr} (e : m ∈ a.M) : ∃ th x, ThAt P w A H x m th := by
  obtain ⟨i, hi, e⟩ := List.getElem_of_mem e
  have h1 : i < S.things.length := by rw [← h.lm]; exact hi
  obtain ⟨x, m', e1, e2, t⟩ := h.get (List.getElem?_eq_getElem h1)
  rw [List.getElem?_eq_getElem hi] at e2
  cases e2
  rw [e] at t
  exact ⟨_, x, t⟩
/-- no value is the store's own -/
theorem SM.nv {H : Hp} {a : Sa} {S : St} (L : Lib P K mg A) (h : SM P w A H a S) {b : Addr} (hb : a.own b) : ∃ u, H b = some u ∧ (∀ dx fs, u ≠ .ins A.Ref dx fs) ∧ (∀ dx fs, u ≠ .ins A.Builtin dx fs) ∧ ∀ xs, u ≠ .tup xs := by
  rcases hb with rfl | rfl | rfl | rfl | hb | hb
  · obtain ⟨dx, e⟩ := h.s_
    refine ⟨_, e, fun _ _ z => ?_, fun _ _ z => ?_, nofun⟩
    · injection z with z; exact ne_cls L.k_Store_Ref z
    · injection z with z; exact ne_cls L.k_Store_Builtin z
  · exact ⟨_, h.t_, nofun, nofun, nofun⟩
  · exact ⟨_, h.o_, nofun, nofun, nofun⟩
  · exact ⟨_, h.l_, nofun, nofun, nofun⟩
  · obtain ⟨th, m, t⟩ := h.xs hb
    obtain ⟨dx, fs, e⟩ := t.x
    refine ⟨_, e, fun _ _ z => ?_, fun _ _ z => ?_, nofun⟩
    · injection z with z; exact (clsT_ne L th).1 z
    · injection z with z; exact (clsT_ne L th).2 z
  · obtain ⟨th, x, t⟩ := h.ms hb
    obtain ⟨u, e, h1, h2⟩ := t.m
    exact ⟨u, e, fun _ _ => h1 _ _ _, fun _ _ => h1 _ _ _, h2⟩
/-- what is not the store's own stays -/
def Fr (a : Sa) (H H' : Hp) : Prop := ∀ b u, H b = some u → ¬ a.own b → H' b = some u
theorem Fr.vk {H H' : Hp} {a : Sa} {S : St} (L : Lib P K mg A) (h : SM P w A H a S) (f : Fr a H H') : Vk A H H' := by
  have no : ∀ b, (∃ dx fs, H b = some (.ins A.Ref dx fs)) ∨ (∃ dx fs, H b = some (.ins A.Builtin dx fs)) ∨ (∃ xs, H b = some (.tup xs)) → ¬ a.own b := fun b e ho => by
    obtain ⟨u, e1, n1, n2, n3⟩ := h.nv L ho
    rcases e with ⟨dx, fs, e⟩ | ⟨dx, fs, e⟩ | ⟨xs, e⟩
    · exact n1 _ _ (Option.some.inj (e1.symm.trans e))
    · exact n2 _ _ (Option.some.inj (e1.symm.trans e))
    · exact n3 _ (Option.some.inj (e1.symm.trans e))
  refine ⟨fun v d hv => ?_, fun q xs e => f _ _ e (no _ (.inr (.inr ⟨_, e⟩)))⟩
  cases d with
  | obj n =>
    obtain ⟨b, dx, rfl, e⟩ := hv
    exact ⟨b, dx, rfl, f _ _ e (no _ (.inl ⟨_, _, e⟩))⟩
  | bi x =>
    obtain ⟨b, dx, rfl, e⟩ := hv
    exact ⟨b, dx, rfl, f _ _ e (no _ (.inr (.inl ⟨_, _, e⟩)))⟩
  | _ => exact hv
theorem SM.imp {H H' : Hp} {a : Sa} {S : St} (h : SM P w A H a S) (k : Vk A H H') (ho : ∀ b u, a.own b → H b = some u → H' b = some u) : SM P w A H' a S := by
  obtain ⟨dx, e⟩ := h.s_
  exact ⟨⟨dx, ho _ _ (.inl rfl) e⟩, ho _ _ (.inr (.inl rfl)) h.t_, ho _ _ (.inr (.inr (.inl rfl))) h.o_, ho _ _ (.inr (.inr (.inr (.inl rfl)))) h.l_, h.lx, h.lm,
    fun i x m d e1 e2 e3 => (h.th i x m d e1 e2 e3).imp k (fun u => ho _ u (.inr (.inr (.inr (.inr (.inl (List.mem_of_getElem? e1))))))) (fun u => ho _ u (.inr (.inr (.inr (.inr (.inr (List.mem_of_getElem? e2))))))), h.nd, h.nx⟩
theorem SM.same {H H' : Hp} {a : Sa} {S : St} (h : SM P w A H a S) (s : Same H H') : SM P w A H' a S := h.imp (Same.sv s).vk fun b u _ e => s b u e
theorem SM.keep {H H' : Hp} {a : Sa} {S : St} {p : Addr} {xs : List V} (h : SM P w A H a S) (k : Keep p H H') (hp : H p = some (.lst xs)) (np : ¬ a.own p) : SM P w A H' a S := h.imp (Keep.sv k hp).vk fun b u ho e => k b u e fun z => np (z ▸ ho)
theorem nodup_get {α : Type} : ∀ {l : List α} {i j : Nat} {x : α}, l.Nodup → l[i]? = some x → l[j]? = some x → i = j
  | [], _, _, _, _, h, _ => by simp at h
  | a :: l, 0, 0, _, _, _, _ => rfl
  | a :: l, 0, j + 1, x, n, h, g => by
    simp at h g
    subst h
    exact absurd (List.mem_of_getElem? g) (List.nodup_cons.mp n).1
  | a :: l, i + 1, 0, x, n, h, g => by
    simp at h g
    subst g
    exact absurd (List.mem_of_getElem? h) (List.nodup_cons.mp n).1
  | a :: l, i + 1, j + 1, x, n, h, g => by
    simp at h g
    rw [nodup_get (List.nodup_cons.mp n).2 h g]
/-- the part m of a thing is written -/
theorem SM.setM {H : Hp} {a : Sa} {S : St} {i : Nat} {x m : Addr} {u : HO} {d : Th} (h : SM P w A H a S) (hX : a.X[i]? = some x) (hM : a.M[i]? = some m) (k : Vk A H (upd H m u)) (hd : ThAt P w A (upd H m u) x m d) :
    SM P w A (upd H m u) a { S with things := S.things.set i d } := by
  have mm := List.mem_of_getElem? hM
  have hm3 : m ≠ a.t ∧ m ≠ a.o ∧ m ≠ a.l := by
    have := h.nd
    simp only [List.nodup_cons, List.mem_cons, not_or] at this
    exact ⟨fun z => this.1.2.2 (z ▸ mm), fun z => this.2.1.2 (z ▸ mm), fun z => this.2.2.1 (z ▸ mm)⟩
  have hMn : a.M.Nodup := by
    have := h.nd
    simp only [List.nodup_cons] at this
    exact this.2.2.2
  obtain ⟨tm, xm, hmt⟩ := h.ms mm
  obtain ⟨um, hum, hni, _⟩ := hmt.m
  have nins : ∀ {b : Addr} {C dx : Addr} {fs : List (Str × V)}, H b = some (.ins C dx fs) → b ≠ m := fun e z => by
    rw [z, hum] at e
    exact hni _ _ _ (Option.some.inj e)
  obtain ⟨dx, e⟩ := h.s_
  refine ⟨⟨dx, by rw [upd_ne (nins e)]; exact e⟩, by rw [upd_ne hm3.1.symm]; exact h.t_, by rw [upd_ne hm3.2.1.symm]; exact h.o_, by rw [upd_ne hm3.2.2.symm]; exact h.l_, by rw [List.length_set]; exact h.lx, by rw [List.length_set]; exact h.lm, ?_, h.nd, h.nx⟩
  intro j x' m' d' e1 e2 e3
  by_cases hij : i = j
  · subst hij
    rw [hX] at e1
    rw [hM] at e2
    cases e1
    cases e2
    rw [List.getElem?_set] at e3
    split at e3
    · split at e3
      · cases e3; exact hd
      · cases e3
    · rename_i z; exact absurd rfl z
  · rw [List.getElem?_set_ne hij] at e3
    have t := h.th j x' m' d' e1 e2 e3
    refine t.imp k (fun u' e => ?_) (fun u' e => ?_)
    · obtain ⟨dx', fs', ex⟩ := t.x
      rw [upd_ne (nins ex)]
      exact e
    · have hne : m' ≠ m := fun z => by
        rw [z] at e2
        exact hij (nodup_get hMn hM e2)
      rw [upd_ne hne]
      exact e
/-- a thing more -/
theorem SM.push {H : Hp} {a : Sa} {S : St} {x m : Addr} {d : Th} (h : SM P w A H a S) (hd : ThAt P w A H x m d) (nx : x ∉ a.X) (nm : m ∉ a.t :: a.o :: a.l :: a.M) :
    SM P w A (upd H a.t (.lst ((a.X ++ [x]).map V.ref))) { a with X := a.X ++ [x], M := a.M ++ [m] } { S with things := S.things ++ [d] } := by
  have sv : Sv H (upd H a.t (.lst ((a.X ++ [x]).map V.ref))) := fun b u e n => by
    rw [upd_ne fun z => by rw [z, h.t_] at e; exact n _ (Option.some.inj e).symm]
    exact e
  have n3 := h.nd
  simp only [List.nodup_cons, List.mem_cons, not_or] at n3
  simp only [List.mem_cons, not_or] at nm
  have hnt : ∀ {b : Addr} {C dx : Addr} {fs : List (Str × V)}, H b = some (.ins C dx fs) → b ≠ a.t := fun e z => by
    rw [z, h.t_] at e
    cases e
  obtain ⟨dx, e⟩ := h.s_
  refine ⟨⟨dx, by rw [upd_ne (hnt e)]; exact e⟩, upd_same, by rw [upd_ne (fun z => n3.1.1 z.symm)]; exact h.o_, by rw [upd_ne (fun z => n3.1.2.1 z.symm)]; exact h.l_, by simp [h.lx], by simp [h.lm], ?_, ?_, ?_⟩
  · intro i x' m' d' e1 e2 e3
    have up : ∀ {x m : Addr} {d : Th}, ThAt P w A H x m d → m ≠ a.t → ThAt P w A (upd H a.t (.lst ((a.X ++ [x]).map V.ref))) x m d → True := fun _ _ _ => trivial
    have go : ∀ {y n : Addr} {g : Th}, ThAt P w A H y n g → n ≠ a.t → ThAt P w A (upd H a.t (.lst ((a.X ++ [x]).map V.ref))) y n g := fun {y n g} t hn => by
      obtain ⟨dy, fs, ey⟩ := t.x
      exact t.imp sv.vk (fun u e => by rw [upd_ne (hnt ey)]; exact e) (fun u e => by rw [upd_ne hn]; exact e)
    by_cases hi : i < S.things.length
    · have e1' : a.X[i]? = some x' := by
        have e1 : (a.X ++ [x])[i]? = some x' := e1
        rw [List.getElem?_append_left (by rw [h.lx]; exact hi)] at e1
        exact e1
      have e2' : a.M[i]? = some m' := by
        have e2 : (a.M ++ [m])[i]? = some m' := e2
        rw [List.getElem?_append_left (by rw [h.lm]; exact hi)] at e2
        exact e2
      have e3' : S.things[i]? = some d' := by
        have e3 : (S.things ++ [d])[i]? = some d' := e3
        rw [List.getElem?_append_left hi] at e3
        exact e3
      exact go (h.th i x' m' d' e1' e2' e3') fun z => n3.1.2.2 (z ▸ List.mem_of_getElem? e2')
    · have hl := (List.getElem?_eq_some_iff.mp e3).1
      rw [List.length_append, List.length_singleton] at hl
      have hi' : i = S.things.length := by omega
      subst hi'
      have e1 : (a.X ++ [x])[S.things.length]? = some x' := e1
      have e2 : (a.M ++ [m])[S.things.length]? = some m' := e2
      have e3 : (S.things ++ [d])[S.things.length]? = some d' := e3
      rw [← h.lx, List.getElem?_append_right (Nat.le_refl _), Nat.sub_self] at e1
      rw [← h.lm, List.getElem?_append_right (Nat.le_refl _), Nat.sub_self] at e2
      rw [List.getElem?_append_right (Nat.le_refl _), Nat.sub_self] at e3
      cases e1
      cases e2
      cases e3
      exact go hd nm.1
  · have : (a.t :: a.o :: a.l :: a.M ++ [m]).Nodup := by
      rw [List.nodup_append]
      refine ⟨h.nd, by simp, fun y hy z hz => ?_⟩
      rw [List.mem_singleton] at hz
      subst hz
      intro q
      subst q
      simp only [List.mem_cons] at hy
      rcases hy with q | q | q | q
      · exact nm.1 q
      · exact nm.2.1 q
      · exact nm.2.2.1 q
      · exact nm.2.2.2 q
    exact this
  · show (a.X ++ [x]).Nodup
    rw [List.nodup_append]
    refine ⟨h.nx, by simp, fun y hy z hz => ?_⟩
    rw [List.mem_singleton] at hz
    subst hz
    exact fun q => nx (q ▸ hy)
end
end My
namespace My
open PySem L2 SX XT XS XE
open C8 (pss_cut tCut cutS_slice pe_gc)
section
variable {P : Program} {w : World} {K : PySem.W.Frag} {mg : Str → Option Value} {base : Heap} {A : Ads}
/-! ### the classes' __init__ -/
def spHI (C : Addr) (n : Str) (K : PySem.W.Frag) : Sp := fun vs H Q _ => ∃ x dx l xs, vs = [.ref x, .ref l] ∧ H x = some (.ins C dx []) ∧ SqL K H l xs ∧ ∀ H' m, Keep x H H' → H' x = some (.ins C dx [(n, .ref m)]) → H m = none → H' m = some (.lst xs) → Q .non H'
theorem ok_Parts_init (L : Lib P K mg A) : FnOk P w K mg base CX0 1 L.Parts_init.f L.Parts_init.fd ["self", "held"] (spHI A.Parts "held" K) := by
  refine L.Parts_init.F.ok sc_Parts_init (fun vs H Q E h => ?_) (fun cdv A' outer s H vs Q E hr h => ?_)
  · obtain ⟨x, dx, l, xs, rfl, _⟩ := h
    rfl
  · obtain ⟨x, dx, l, xs, rfl, hx, hl, q⟩ := h
    refine ⟨_, (pss_one (ps_fld (pv 0) (pe_callTy call_list_of (by rfl) L.z_list (by decide +kernel) (pa_cons (pv 1) pa_nil)) rfl)), ?_⟩
    refine ⟨_, rfl, l, xs, rfl, .inl hl, fun m hm => ⟨_, rfl, x, A.Parts, dx, [], rfl, (by rw [upd_ne (ne_of_none hx hm)]; exact hx), L.c_Parts.cl, L.n_Parts_held, (by show 0 < 1000; decide), ?_⟩⟩
    have nmx : m ≠ x := (ne_of_none hx hm).symm
    exact q _ m (fun b o e n => by rw [upd_ne n, upd_ne (ne_of_none e hm)]; exact e) upd_same hm (by rw [upd_ne nmx]; exact upd_same)
theorem ok_Cursor_init (L : Lib P K mg A) : FnOk P w K mg base CX0 1 L.Cursor_init.f L.Cursor_init.fd ["self", "rest"] (spHI A.Cursor "rest" K) := by
  refine L.Cursor_init.F.ok sc_Cursor_init (fun vs H Q E h => ?_) (fun cdv A' outer s H vs Q E hr h => ?_)
  · obtain ⟨x, dx, l, xs, rfl, _⟩ := h
    rfl
  · obtain ⟨x, dx, l, xs, rfl, hx, hl, q⟩ := h
    refine ⟨_, (pss_one (ps_fld (pv 0) (pe_callTy call_list_of (by rfl) L.z_list (by decide +kernel) (pa_cons (pv 1) pa_nil)) rfl)), ?_⟩
    refine ⟨_, rfl, l, xs, rfl, .inl hl, fun m hm => ⟨_, rfl, x, A.Cursor, dx, [], rfl, (by rw [upd_ne (ne_of_none hx hm)]; exact hx), L.c_Cursor.cl, L.n_Cursor_rest, (by show 0 < 1000; decide), ?_⟩⟩
    have nmx : m ≠ x := (ne_of_none hx hm).symm
    exact q _ m (fun b o e n => by rw [upd_ne n, upd_ne (ne_of_none e hm)]; exact e) upd_same hm (by rw [upd_ne nmx]; exact upd_same)
def spKI (A : Ads) : Sp := fun vs H Q _ => ∃ x dx v1 v2, vs = [.ref x, v1, v2] ∧ H x = some (.ins A.Kin dx []) ∧ ∀ H' m, Keep x H H' → H' x = some (.ins A.Kin dx [("name", v1), ("parent", v2), ("methods", .ref m)]) → H m = none → H' m = some (.dK []) → Q .non H'
theorem ok_Kin_init (L : Lib P K mg A) : FnOk P w K mg base CX0 1 L.Kin_init.f L.Kin_init.fd ["self", "name", "parent"] (spKI A) := by
  refine L.Kin_init.F.ok sc_Kin_init (fun vs H Q E h => ?_) (fun cdv A' outer s H vs Q E hr h => ?_)
  · obtain ⟨x, dx, v1, v2, rfl, _⟩ := h
    rfl
  · obtain ⟨x, dx, v1, v2, rfl, hx, q⟩ := h
    refine ⟨_, (pss_cons (ps_fld (pv 0) (pv 1) rfl)
      (pss_cons (ps_fld (pv 0) (pv 2) rfl)
      (pss_one (ps_fld (pv 0) pe_dnewK rfl)))), ?_⟩
    refine ⟨_, rfl, _, rfl, x, A.Kin, dx, _, rfl, hx, L.c_Kin.cl, L.n_Kin_name, (by show 0 < 1000; decide), ?_⟩
    refine ⟨_, rfl, _, rfl, x, A.Kin, dx, _, rfl, upd_same, L.c_Kin.cl, L.n_Kin_parent, (by show 1 < 1000; decide), ?_⟩
    refine fun m hm => ?_
    have nmx : x ≠ m := ne_of_none upd_same hm
    refine ⟨_, rfl, x, A.Kin, dx, _, rfl, (by rw [upd_ne nmx]; exact upd_same), L.c_Kin.cl, L.n_Kin_methods, (by show 2 < 1000; decide), ?_⟩
    refine q _ m (fun b o e n => by rw [upd_ne n, upd_ne (ne_of_none (H := upd (upd H x _) x _) (by rw [upd_ne n, upd_ne n]; exact e) hm), upd_ne n, upd_ne n]; exact e) upd_same ?_ (by rw [upd_ne nmx.symm]; exact upd_same)
    rw [upd_ne nmx.symm, upd_ne nmx.symm] at hm
    exact hm
/-- a new part is made and a field of the object at a is set -/
structure Two (H H2 : Hp) (t a : Addr) (U I : HO) : Prop where
  kk : ∀ b u, H b = some u → b ≠ a → H2 b = some u
  tt : H2 t = some U
  aa : H2 a = some I
  nn : ∀ b, H2 b = none → H b = none
  na : t ≠ a
  nt : H t = none
theorem two {H : Hp} {t a : Addr} {U I I0 : HO} (nt : H t = none) (ha : H a = some I0) : Two H (upd (upd H t U) a I) t a U I := by
  have nta : t ≠ a := (ne_of_none ha nt).symm
  refine ⟨fun b u e n => by rw [upd_ne n, upd_ne (ne_of_none e nt)]; exact e, by rw [upd_ne nta]; exact upd_same, upd_same, fun b e => ?_, nta, nt⟩
  by_cases h1 : b = a
  · rw [h1, upd_same] at e; cases e
  · rw [upd_ne h1] at e
    by_cases h2 : b = t
    · rw [h2, upd_same] at e; cases e
    · rw [upd_ne h2] at e; exact e
def stO (ls : List Str) : St := ⟨[.kin "Error" .non []], [], ls, 0⟩
def spSI (P : Program) (w : World) (K : PySem.W.Frag) (A : Ads) : Sp := fun vs H Q _ => ∃ a dx l ls, vs = [.ref a, .ref l] ∧ H a = some (.ins A.Store dx []) ∧ SqL K H l (ls.map V.str) ∧ l ≠ a ∧ ∀ H' (sa : Sa), sa.s = a → Keep a H H' → SM P w A H' sa (stO ls) → (∀ b, sa.own b → b = a ∨ H b = none) → Q .non H'
theorem ok_Store_init (L : Lib P K mg A) : FnOk P w K mg base CX0 3 L.Store_init.f L.Store_init.fd ["self", "lines"] (spSI P w K A) := by
  have G_Kin_init : FnOk P w K mg base CX0 1 L.Kin_init.f L.Kin_init.fd ["self", "name", "parent"] (spKI A) := ok_Kin_init L
  refine L.Store_init.F.ok sc_Store_init (fun vs H Q E h => ?_) (fun cdv A' outer s H vs Q E hr h => ?_)
  · obtain ⟨a, dx, l, ls, rfl, _⟩ := h
    rfl
  · obtain ⟨a, dx, l, ls, rfl, ha, hl, hla, q⟩ := h
    refine ⟨_, (pss_cons (ps_fld (pv 0) (pe_lst (pa_cons (pe_make L.Kin_init.m G_Kin_init (hr.mono (by omega)) (by rfl) L.c_Kin.g L.Kin_init.b .nil pass0 (pa_cons pe_str (pa_cons pe_non pa_nil))) pa_nil)) rfl)
      (pss_cons (ps_fld (pv 0) (pe_lst pa_nil) rfl)
      (pss_cons (ps_fld (pv 0) (pe_callTy call_list_of (by rfl) L.z_list (by decide +kernel) (pa_cons (pv 1) pa_nil)) rfl)
      (pss_one (ps_fld (pv 0) pe_int rfl))))), ?_⟩
    intro y dy ny ndy nyd
    refine ⟨y, dy, _, _, rfl, upd_same, fun H1 m k1 hy nm hm => ⟨rfl, ?_⟩⟩
    have s1 : Same H H1 := Same.made ny ndy k1
    have ha1 := s1 _ _ ha
    have nya : y ≠ a := fun z => by rw [z, ha] at ny; cases ny
    have nm0 : H m = none := by
      by_cases h1 : m = y
      · rw [h1]; exact ny
      · by_cases h2 : m = dy
        · rw [h2]; exact ndy
        · rw [upd_ne h1, upd_ne h2] at nm; exact nm
    have nma : m ≠ a := fun z => by rw [z, ha] at nm0; cases nm0
    refine ⟨(by show 1 ≤ sizeLine; decide), fun t nt => ?_⟩
    refine ⟨_, rfl, a, A.Store, dx, [], rfl, (by rw [upd_ne (ne_of_none ha1 nt)]; exact ha1), L.c_Store.cl, L.n_Store_things, (by show 0 < 1000; decide), ?_⟩
    have T1 := two (U := .lst [.ref y]) (I := .ins A.Store dx (putF "things" (V.ref t) [])) nt ha1
    generalize upd (upd H1 t (.lst [V.ref y])) a (.ins A.Store dx (putF "things" (V.ref t) [])) = H2 at T1 ⊢
    refine ⟨Nat.zero_le _, fun o no => ?_⟩
    refine ⟨_, rfl, a, A.Store, dx, _, rfl, (by rw [upd_ne (ne_of_none T1.aa no)]; exact T1.aa), L.c_Store.cl, L.n_Store_output, (by show 1 < 1000; decide), ?_⟩
    have T2 := two (U := .lst []) (I := .ins A.Store dx (putF "output" (V.ref o) (putF "things" (V.ref t) []))) no T1.aa
    generalize upd (upd H2 o (.lst [])) a (.ins A.Store dx (putF "output" (V.ref o) (putF "things" (V.ref t) []))) = H3 at T2 ⊢
    have k13 : ∀ b u, H b = some u → b ≠ a → H3 b = some u := fun b u e n => T2.kk _ _ (T1.kk _ _ (s1 _ _ e) n) n
    have hl3 : SqL K H3 l (ls.map V.str) := by
      rcases hl with (hl | ⟨ob, hl⟩) | hl
      · exact .inl (.inl (k13 _ _ hl hla))
      · exact .inl (.inr ⟨ob, k13 _ _ hl hla⟩)
      · exact .inr hl
    refine ⟨_, rfl, l, _, rfl, .inl hl3, fun lm nlm => ?_⟩
    refine ⟨_, rfl, a, A.Store, dx, _, rfl, (by rw [upd_ne (ne_of_none T2.aa nlm)]; exact T2.aa), L.c_Store.cl, L.n_Store_lines, (by show 2 < 1000; decide), ?_⟩
    refine ⟨_, rfl, a, A.Store, dx, _, rfl, upd_same, L.c_Store.cl, L.n_Store_taken, (by show 3 < 1000; decide), ?_⟩
    have T3 := two (U := .lst (ls.map V.str)) (I := .ins A.Store dx (putF "lines" (V.ref lm) (putF "output" (V.ref o) (putF "things" (V.ref t) [])))) nlm T2.aa
    generalize upd (upd H3 lm (.lst (ls.map V.str))) a (.ins A.Store dx (putF "lines" (V.ref lm) (putF "output" (V.ref o) (putF "things" (V.ref t) [])))) = H4 at T3 ⊢
    have kF : ∀ {b : Addr} {u : HO}, H4 b = some u → b ≠ a → upd H4 a (.ins A.Store dx (putF "taken" (V.int 0) (putF "lines" (V.ref lm) (putF "output" (V.ref o) (putF "things" (V.ref t) []))))) b = some u := fun e n => by rw [upd_ne n]; exact e
    have ht4 := T3.kk _ _ (T2.kk _ _ T1.tt T1.na) T1.na
    have ho4 := T3.kk _ _ T2.tt T2.na
    have hy4 := T3.kk _ _ (T2.kk _ _ (T1.kk _ _ hy nya) nya) nya
    have hm4 := T3.kk _ _ (T2.kk _ _ (T1.kk _ _ hm nma) nma) nma
    refine q _ ⟨a, t, o, lm, [y], [m]⟩ rfl (fun b u e n => kF (T3.kk _ _ (k13 _ _ e n) n) n) ⟨⟨dx, upd_same⟩, kF ht4 T1.na, kF ho4 T2.na, kF T3.tt T3.na, rfl, rfl, ?_, ?_, by simp⟩ ?_
    · intro i x' m' d' e1 e2 e3
      match i, e1, e2, e3 with
      | 0, e1, e2, e3 =>
        cases e1
        cases e2
        cases e3
        exact ⟨_, .non, [], kF hy4 nya, rfl, kF hm4 nma, trivial⟩
      | i + 1, e1, e2, e3 => simp at e1
    · have hm1 := hm
      have n1 : t ≠ m := (ne_of_none hm1 nt).symm
      have n2 : t ≠ o := ne_of_none T1.tt no
      have n3 : t ≠ lm := ne_of_none (T2.kk _ _ T1.tt T1.na) nlm
      have n4 : o ≠ m := (ne_of_none (T1.kk _ _ hm1 nma) no).symm
      have n5 : o ≠ lm := ne_of_none T2.tt nlm
      have n6 : lm ≠ m := (ne_of_none (T2.kk _ _ (T1.kk _ _ hm1 nma) nma) nlm).symm
      simp [n1, n2, n3, n4, n5, n6]
    · intro b hb
      rcases hb with rfl | rfl | rfl | rfl | hb | hb
      · exact .inl rfl
      · exact .inr (s1.free nt)
      · exact .inr (s1.free (T1.nn _ no))
      · exact .inr (s1.free (T1.nn _ (T2.nn _ nlm)))
      · rw [List.mem_singleton] at hb
        subst hb
        exact .inr ny
      · rw [List.mem_singleton] at hb
        subst hb
        exact .inr nm0
/-! ### make, at -/
def spMake (P : Program) (w : World) (A : Ads) : Sp := fun vs H Q _ => ∃ (a : Sa) (S : St) (x m : Addr) (d : Th), vs = [.ref a.s, .ref x] ∧ SM P w A H a S ∧ ThAt P w A H x m d ∧ x ∉ a.X ∧ m ∉ a.t :: a.o :: a.l :: a.M ∧ S.things.length < 100000 ∧
  ∀ H' r, Keep a.t H H' → SM P w A H' { a with X := a.X ++ [x], M := a.M ++ [m] } { S with things := S.things ++ [d] } → H r = none → Has A H' (.ref r) (.obj S.things.length) → Q (.ref r) H'
theorem ok_Store_make (L : Lib P K mg A) : FnOk P w K mg base CX0 3 L.Store_make.f L.Store_make.fd ["self", "thing"] (spMake P w A) := by
  have G_Ref_init : FnOk P w K mg base CX0 1 L.Ref_init.f L.Ref_init.fd ["self", "number"] (spI1 A.Ref "number") := ok_Ref_init L
  refine L.Store_make.F.ok sc_Store_make (fun vs H Q E h => ?_) (fun cdv A' outer s H vs Q E hr h => ?_)
  · obtain ⟨a, S, x, m, d, rfl, _⟩ := h
    rfl
  · obtain ⟨a, S, x, m, d, rfl, hS, hd, nx, nm, hl, q⟩ := h
    refine ⟨_, (pss_cons (ps_expr (pe_bm PySem.F.plainAttrs_list PySem.F.slot_list_append PySem.F.type_list_append mt_append (pe_fld (pv 0) rfl) (pa_cons (pv 1) pa_nil)))
      (pss_one (ps_ret (pe_make L.Ref_init.m G_Ref_init (hr.mono (by omega)) (by rfl) L.c_Ref.g L.Ref_init.b .nil pass0 (pa_cons (pe_op op_sub (pe_callB call_len_seq (by rfl) L.z_len PySem.boot_len (pa_cons (pe_fld (pv 0) rfl) pa_nil)) pe_int) pa_nil))))), ?_⟩
    obtain ⟨dx, h1⟩ := hS.s_
    have hlx := hS.lx
    have nst : a.s ≠ a.t := fun z => by rw [z, hS.t_] at h1; cases h1
    refine ⟨_, rfl, a.s, A.Store, dx, _, _, rfl, h1, L.c_Store.cl, L.n_Store_things, st_things _ _ _ _, .inl ⟨rfl, _, SqL.of hS.t_⟩, _, rfl, a.t, _, _, rfl, rfl, hS.t_, Nat.lt_of_le_of_lt (m := 100000) (by rw [List.length_map]; omega) (by decide), ?_⟩
    have e : a.X.map V.ref ++ [V.ref x] = (a.X ++ [x]).map V.ref := by rw [List.map_append]; rfl
    rw [e]
    have P1 := hS.push hd nx nm
    have K1 : Keep a.t H (upd H a.t (.lst ((a.X ++ [x]).map V.ref))) := keep_upd
    refine ⟨_, rfl, a.s, A.Store, dx, _, _, rfl, K1 _ _ h1 nst, L.c_Store.cl, L.n_Store_things, st_things _ _ _ _, a.t, _, rfl, .inl (SqL.of upd_same), _, _, rfl, rfl, ?_⟩
    intro r dr nr ndr ndrr
    refine ⟨r, dr, _, rfl, upd_same, fun H1 k1 hR1 => ⟨rfl, ?_⟩⟩
    have s1 := Same.made nr ndr k1
    have nrt : r ≠ a.t := fun z => by rw [z, upd_same] at nr; cases nr
    refine q _ r (fun b ob e n => s1 _ _ (K1 _ _ e n)) (P1.same s1) (by rw [upd_ne nrt] at nr; exact nr) ⟨r, dr, rfl, ?_⟩
    have : ((((a.X ++ [x]).map V.ref).length : Nat) : Int) - 1 = (S.things.length : Nat) := by
      rw [List.length_map, List.length_append, List.length_singleton]
      omega
    show H1 r = some (.ins A.Ref dr [("number", .int (S.things.length : Nat))])
    rw [← this]
    exact hR1
def spAt (P : Program) (w : World) (A : Ads) : Sp := fun vs H Q _ => ∃ (a : Sa) (S : St) (r x : Addr) (i : Nat), vs = [.ref a.s, .ref r] ∧ SM P w A H a S ∧ Has A H (.ref r) (.obj i) ∧ a.X[i]? = some x ∧ Q (.ref x) H
theorem ok_Store_at (L : Lib P K mg A) : FnOk P w K mg base CX0 1 L.Store_at.f L.Store_at.fd ["self", "ref"] (spAt P w A) := by
  refine L.Store_at.F.ok sc_Store_at (fun vs H Q E h => ?_) (fun cdv A' outer s H vs Q E hr h => ?_)
  · obtain ⟨a, S, r, x, i, rfl, _⟩ := h
    rfl
  · obtain ⟨a, S, r, x, i, rfl, hS, ⟨b, dr, e, hR⟩, hi, q⟩ := h
    cases e
    refine ⟨_, (pss_one (ps_ret (pe_ix ix_list (pe_fld (pv 0) rfl) (pe_fld (pv 1) rfl) (fun _ _ => rfl)))), ?_⟩
    obtain ⟨dx, h1⟩ := hS.s_
    exact ⟨_, rfl, a.s, A.Store, dx, _, _, rfl, h1, L.c_Store.cl, L.n_Store_things, st_things _ _ _ _, _, rfl, r, A.Ref, dr, _, _, rfl, hR, L.c_Ref.cl, L.n_Ref_number, lk_hit, a.t, _, _, .ref x, rfl, rfl, SqL.of hS.t_, atI_nat (by rw [List.getElem?_map, hi]; rfl), q⟩
/-! ### kinds -/
def tP : Th → Bool
  | .parts _ => true
  | _ => false
def tT : Th → Bool
  | .table _ => true
  | _ => false
def tI : Th → Bool
  | .inst _ _ => true
  | _ => false
def tK : Th → Bool
  | .kin _ _ _ => true
  | _ => false
theorem kit_P (L : Lib P K mg A) (d : Th) : PySem.W.kitOne K (.ref (clsT A d)) (.ref A.Parts) = some (tP d) := by
  cases d with
  | parts ds => exact kit_self _
  | cursor ds => exact L.k_Cursor_Parts
  | clo => exact L.k_Closure_Parts
  | bou => exact L.k_Bound_Parts
  | table es => exact L.k_Table_Parts
  | inst o ns => exact L.k_Instance_Parts
  | kin nm par ms => exact L.k_Kin_Parts
theorem kit_T (L : Lib P K mg A) (d : Th) : PySem.W.kitOne K (.ref (clsT A d)) (.ref A.Table) = some (tT d) := by
  cases d with
  | parts ds => exact L.k_Parts_Table
  | cursor ds => exact L.k_Cursor_Table
  | clo => exact L.k_Closure_Table
  | bou => exact L.k_Bound_Table
  | table es => exact kit_self _
  | inst o ns => exact L.k_Instance_Table
  | kin nm par ms => exact L.k_Kin_Table
theorem kit_I (L : Lib P K mg A) (d : Th) : PySem.W.kitOne K (.ref (clsT A d)) (.ref A.Instance) = some (tI d) := by
  cases d with
  | parts ds => exact L.k_Parts_Instance
  | cursor ds => exact L.k_Cursor_Instance
  | clo => exact L.k_Closure_Instance
  | bou => exact L.k_Bound_Instance
  | table es => exact L.k_Table_Instance
  | inst o ns => exact kit_self _
  | kin nm par ms => exact L.k_Kin_Instance
theorem kit_K (L : Lib P K mg A) (d : Th) : PySem.W.kitOne K (.ref (clsT A d)) (.ref A.Kin) = some (tK d) := by
  cases d with
  | parts ds => exact L.k_Parts_Kin
  | cursor ds => exact L.k_Cursor_Kin
  | clo => exact L.k_Closure_Kin
  | bou => exact L.k_Bound_Kin
  | table es => exact L.k_Table_Kin
  | inst o ns => exact L.k_Instance_Kin
  | kin nm par ms => exact kit_self _
theorem th_ty (L : Lib P K mg A) {H : Hp} {x m : Addr} {d : Th} (h : ThAt P w A H x m d) : TyX K H (.ref x) (.ref (clsT A d)) := by
  obtain ⟨dx, fs, e⟩ := h.x
  cases d with
  | parts ds => exact L.c_Parts.ty e
  | cursor ds => exact L.c_Cursor.ty e
  | clo => exact L.c_Closure.ty e
  | bou => exact L.c_Bound.ty e
  | table es => exact L.c_Table.ty e
  | inst o ns => exact L.c_Instance.ty e
  | kin nm par ms => exact L.c_Kin.ty e
end
end My
namespace My
open PySem L2 SX XT XS XE XD XL
open C8 (pss_cut tCut cutS_slice pe_gc)
theorem sqt_keep {K : PySem.W.Frag} {H H' : Hp} {p r : Addr} {xs ys : List V} (hk : Keep p H H') (hp : H p = some (.lst ys)) (h : SqT K H r xs) : SqT K H' r xs := by
  rcases h with (h | ⟨ob, h⟩) | h
  · exact .inl (.inl (hk _ _ h fun z => by rw [z, hp] at h; cases h))
  · exact .inl (.inr ⟨ob, hk _ _ h fun z => by rw [z, hp] at h; cases h⟩)
  · exact .inr h
variable {P : Program} {w : World} {K : PySem.W.Frag} {mg : Str → Option Value} {base : Heap} {A : Ads}
def StL (K : PySem.W.Frag) (H : Hp) (a p : Addr) (ns : List Int) : Prop := ∃ x k : Int, H p = some (.lst [.int x, .int k, .ref a]) ∧ 0 ≤ k ∧ SqL K H a (ns.map V.int)
theorem sql_keep {H H' : Hp} {a p : Addr} {x k : Int} {ns : List Int} (hk : Keep p H H') (hp : H p = some (.lst [.int x, .int k, .ref a])) (h : SqL K H a (ns.map V.int)) : SqL K H' a (ns.map V.int) := by
  rcases h with (h | ⟨ob, h⟩) | h
  · refine .inl (.inl (hk _ _ h fun z => ?_))
    rw [z, hp] at h
    have := Option.some.inj h
    injection this with e
    match ns, e with
    | [], e => cases e
    | [_], e => simp at e
    | [_, _], e => simp at e
    | _ :: _ :: _ :: _, e => simp at e
  · refine .inl (.inr ⟨ob, hk _ _ h fun z => ?_⟩)
    rw [z, hp] at h
    cases h
  · exact .inr h
theorem StL.same {H H' : Hp} {a p : Addr} {ns : List Int} (s : Same H H') (h : StL K H a p ns) : StL K H' a p ns := by
  obtain ⟨x, k, h1, h2, h3⟩ := h
  exact ⟨x, k, s _ _ h1, h2, s.seq h3⟩
def spCell (K : PySem.W.Frag) : Sp := fun vs H Q _ => ∃ (a : Addr) (ns : List Int) (k : Int), vs = [.ref a, .int k] ∧ SqL K H a (ns.map V.int) ∧ 0 ≤ k ∧ ∀ c : Int, Q (.int c) H
theorem ok_law_cell (L : Lib P K mg A) : FnOk P w K mg base CX0 1 L.law_cell.f L.law_cell.fd ["script", "k"] (spCell K) := by
  refine L.law_cell.F.ok sc_law_cell (fun vs H Q E h => ?_) (fun cdv A' outer s H vs Q E hr h => ?_)
  · obtain ⟨a, ns, k, rfl, _⟩ := h
    rfl
  · obtain ⟨a, ns, k, rfl, hS, h0, q⟩ := h
    refine ⟨_, pss_cons (ps_if (pt_cmpR op_lt (pv 1) (pe_callB call_len_seq (by rfl) L.z_len PySem.boot_len (pa_cons (pv 0) pa_nil)) (nomark _))
        (pss_one (ps_ret (pe_ix ix_list (pv 0) (pv 1) (fun _ _ => rfl))))
        pss_nil)
      (pss_one (ps_ret pe_int)), ?_⟩
    refine ⟨_, rfl, _, rfl, a, _, rfl, .inl hS, _, _, rfl, rfl, _, rfl, ite2 (fun e => ?_) (fun e => q 0)⟩
    have e1 : k < ((ns.map V.int).length : Nat) := of_decide_eq_true e
    obtain ⟨j, rfl⟩ : ∃ j : Nat, k = (j : Int) := ⟨k.toNat, by omega⟩
    have hj : j < ns.length := by
      rw [List.length_map] at e1
      omega
    refine ⟨_, rfl, _, rfl, a, _, _, V.int ns[j], rfl, rfl, hS, atI_nat ?_, q _⟩
    rw [List.getElem?_map, List.getElem?_eq_getElem hj]
    rfl
def spBegin (K : PySem.W.Frag) : Sp := fun vs H Q _ => ∃ (a : Addr) (ns : List Int) (k : Int), vs = [.ref a, .int k] ∧ SqL K H a (ns.map V.int) ∧ 0 ≤ k ∧ ∀ H' p, H p = none → Same H H' → StL K H' a p ns → Q (.ref p) H'
theorem ok_law_begin (L : Lib P K mg A) : FnOk P w K mg base CX0 1 L.law_begin.f L.law_begin.fd ["script", "k"] (spBegin K) := by
  refine L.law_begin.F.ok sc_law_begin (fun vs H Q E h => ?_) (fun cdv A' outer s H vs Q E hr h => ?_)
  · obtain ⟨a, ns, k, rfl, _⟩ := h
    rfl
  · obtain ⟨a, ns, k, rfl, hS, h0, q⟩ := h
    refine ⟨_, pss_one (ps_ret (pe_lst (pa_cons pe_int (pa_cons (pv 1) (pa_cons (pv 0) pa_nil))))), ?_⟩
    refine ⟨_, rfl, _, rfl, (by show 3 ≤ sizeLine; decide), fun p hp => q _ p hp (same_upd hp) ⟨0, k, upd_same, h0, (same_upd hp).seq hS⟩⟩
def spDraw (K : PySem.W.Frag) : Sp := fun vs H Q _ => ∃ (a p : Addr) (ns : List Int) (many : Int), vs = [.ref p, .int many] ∧ StL K H a p ns ∧ 0 < many ∧ many.natAbs < 2 ^ 80 ∧ ∀ H' (r : Int), Keep p H H' → StL K H' a p ns → 0 ≤ r → r < many → Q (.int r) H'
theorem ok_law_draw (L : Lib P K mg A) : FnOk P w K mg base CX0 2 L.law_draw.f L.law_draw.fd ["state", "many"] (spDraw K) := by
  have GC : FnOk P w K mg base CX0 1 L.law_cell.f L.law_cell.fd ["script", "k"] (spCell K) := ok_law_cell L
  refine L.law_draw.F.ok sc_law_draw (fun vs H Q E h => ?_) (fun cdv A' outer s H vs Q E hr h => ?_)
  · obtain ⟨a, p, ns, many, rfl, _⟩ := h
    rfl
  · obtain ⟨a, p, ns, many, rfl, ⟨x, k, hp, hk, hS⟩, h0, h1, q⟩ := h
    refine ⟨_, pss_cut (ps_if (pt_cmpR op_lt (pe_ix ix_list (pv 0) pe_int (fun _ _ => rfl)) (pv 1) (nomark _))
        (pss_cons (ps_set (i := 2) sc_law_draw.nd rfl (.inl rfl) (pe_ix ix_list (pv 0) pe_int (fun _ _ => rfl)))
        (pss_cons (ps_set (i := 3) sc_law_draw.nd rfl (.inl rfl) (pe_call GC hr (by rfl) L.law_cell.g L.law_cell.F.kp L.law_cell.b .nil pass0 (pa_cons (pe_ix ix_list (pv 0) pe_int (fun _ _ => rfl)) (pa_cons (pv 2) pa_nil))))
        (pss_cons (ps_set (i := 4) sc_law_draw.nd rfl (.inl rfl) pe_int)
        (pss_cons (ps_asg (pe_op op_add (pv 2) pe_int) (pg_sub (pv 0) pe_int set_list))
        (pss_cons (ps_asg (pe_callB call_abs (by rfl) L.z_abs (by decide +kernel) (pa_cons (pv 3) pa_nil)) (pg_sub (pv 0) pe_int set_list))
        (pss_one (ps_if (pt_chain op_lt op_lt (pe_un un_neg pe_int) (pv 3) pe_int)
          (pss_cons (ps_set (i := 5) sc_law_draw.nd rfl (.inl rfl) (pe_op op_mod (pe_callTy call_int1 (by rfl) L.z_int (by decide +kernel) (pa_cons (pe_op op_add (pe_op op_mul (pv 3) pe_int) (pe_op op_mul (pe_op op_add (pv 2) pe_int) pe_int)) pa_nil)) (pv 4)))
          (pss_one (ps_asg (pe_op op_add (pe_op op_mod (pe_callTy call_int1 (by rfl) L.z_int (by decide +kernel) (pa_cons (pe_op op_add (pe_op op_add (pe_op op_mulW (pv 5) (pv 5)) (pe_op op_mul pe_int (pv 5))) (pv 2)) pa_nil)) (pv 4)) (pv 4)) (pg_sub (pv 0) pe_int set_list))))
          pss_nil)))))))
        pss_nil)
      (pss_cons (ps_set (i := 6) sc_law_draw.nd rfl (.inl rfl) (pe_op op_mod (pe_callTy call_int1 (by rfl) L.z_int (by decide +kernel) (pa_cons (pe_ix ix_list (pv 0) pe_int (fun _ _ => rfl)) pa_nil)) (pv 1)))
      (pss_cons (ps_asg (pe_op op_fdivW (pe_ix ix_list (pv 0) pe_int (fun _ _ => rfl)) (pv 1)) (pg_sub (pv 0) pe_int set_list))
      (pss_one (ps_ret (pv 6))))), ?_⟩
    let M : List (Option V) → Hp → Prop := fun σ' H' => ∃ (y2 y3 y4 y5 : Option V) (x k : Int), σ' = [some (.ref p), some (.int many), y2, y3, y4, y5, none] ∧ Keep p H H' ∧ H' p = some (.lst [.int x, .int k, .ref a]) ∧ 0 ≤ k
    refine ⟨M, ⟨_, rfl, p, _, _, _, rfl, rfl, SqL.of hp, rfl, _, rfl, _, _, rfl, rfl, _, rfl, ite2 (fun e => ?_) (fun e => ⟨none, none, none, none, x, k, rfl, fun _ _ e _ => e, hp, hk⟩)⟩, ?_⟩
    · refine ⟨_, rfl, p, _, _, _, rfl, rfl, SqL.of hp, rfl, ?_⟩
      refine ⟨_, rfl, p, _, _, _, rfl, rfl, SqL.of hp, rfl, _, rfl, a, ns, k, rfl, hS, hk, fun cell => ?_⟩
      refine ⟨_, rfl, _, _, rfl, rfl, _, rfl, p, _, _, _, rfl, rfl, hp, rfl, ?_⟩
      refine ⟨_, rfl, _, rfl, _, rfl, p, _, _, _, rfl, rfl, upd_same, rfl, ?_⟩
      have fin : ∀ (z z' : Int) (Hx : Hp), Keep p H Hx → Keep p H (upd Hx p (.lst [.int z, .int z', .ref a])) := fun z z' Hx kx b o e n => by
        rw [upd_ne n]
        exact kx b o e n
      have k0 : Keep p H H := fun _ _ e _ => e
      have kA := fin x (k + 1) H k0
      have kB := fin (if cell < 0 then -cell else cell) (k + 1) _ kA
      have eB : upd (upd H p (.lst [.int x, .int (k + 1), .ref a])) p (.lst [.int (if cell < 0 then -cell else cell), .int (k + 1), .ref a]) p = some (.lst [.int (if cell < 0 then -cell else cell), .int (k + 1), .ref a]) := upd_same
      have done : ∀ (y5 : Option V) (z : Int) (Hx : Hp), Keep p H Hx → Hx p = some (.lst [.int z, .int (k + 1), .ref a]) → M [some (.ref p), some (.int many), some (.int k), some (.int cell), some (.int 618970019642690137449562111), y5, none] Hx := fun y5 z Hx k1 e1 => ⟨_, _, _, _, z, k + 1, rfl, k1, e1, by omega⟩
      refine ⟨_, rfl, _, rfl, _, _, rfl, rfl, _, rfl, ite2 (fun e1 => ⟨_, _, rfl, rfl, _, rfl, ite2 (fun e2 => ?_) (fun _ => done none _ _ kB eB)⟩) (fun _ => ⟨_, rfl, iteF (done none _ _ kB eB)⟩)⟩
      refine ⟨_, rfl, _, _, rfl, rfl, .inr ⟨by decide, by decide⟩, _, rfl, _, _, rfl, rfl, _, _, rfl, rfl, .inr ⟨by decide, by decide⟩, _, _, rfl, rfl, .inl ⟨_, rfl, _, rfl, _, _, rfl, rfl, (by show (0 : Int) < 618970019642690137449562111; decide), ?_⟩⟩
      dsimp only
      have m0 : 0 ≤ (cell * 2654435761 + (k + 1) * 6700417) % 618970019642690137449562111 := Int.emod_nonneg _ (by decide)
      have m1 : (cell * 2654435761 + (k + 1) * 6700417) % 618970019642690137449562111 < 618970019642690137449562111 := Int.emod_lt_of_pos _ (by decide)
      generalize (cell * 2654435761 + (k + 1) * 6700417) % 618970019642690137449562111 = mx at m0 m1 ⊢
      have mb : mx.natAbs < 2 ^ 90 := by
        have : (2 : Nat) ^ 90 = 1237940039285380274899124224 := by decide
        omega
      refine ⟨_, rfl, _, rfl, _, _, rfl, rfl, wide_mul mb mb (by decide) (by decide) (by decide), _, rfl, _, _, rfl, rfl, .inl ⟨by decide, by decide⟩, _, _, rfl, rfl, _, rfl, _, _, rfl, rfl, .inl ⟨_, rfl, _, rfl, _, _, rfl, rfl, (by show (0 : Int) < 618970019642690137449562111; decide), _, rfl, _, _, rfl, rfl, _, rfl, p, _, _, _, rfl, rfl, eB, rfl, ?_⟩⟩
      exact done _ _ _ (fin _ _ _ kB) upd_same
    rintro σ' H' ⟨y2, y3, y4, y5, x', k', rfl, k1, hp', hk'⟩
    refine ⟨_, rfl, p, _, _, _, rfl, rfl, SqL.of hp', rfl, .inl ⟨_, rfl, _, rfl, _, _, rfl, rfl, h0, ?_⟩⟩
    refine ⟨_, rfl, p, _, _, _, rfl, rfl, SqL.of hp', rfl, _, rfl, _, _, rfl, rfl, wide_div h0 h1 (by decide) (by decide), _, rfl, p, _, _, _, rfl, rfl, hp', rfl, ?_⟩
    have k2 : Keep p H (upd H' p (.lst [.int (x' / many), .int k', .ref a])) := fun b o e n => by
      rw [upd_ne n]
      exact k1 b o e n
    exact ⟨_, rfl, q _ _ k2 ⟨_, k', upd_same, hk', sql_keep k2 hp hS⟩ (Int.emod_nonneg _ (by omega)) (Int.emod_lt_of_pos _ h0)⟩
section
variable {P : Program} {w : World} {K : PySem.W.Frag} {mg : Str → Option Value} {base : Heap} {A : Ads}
def spPick (K : PySem.W.Frag) : Sp := fun vs H Q _ => ∃ (a p r : Addr) (ns : List Int) (xs : List V), vs = [.ref p, .ref r] ∧ StL K H a p ns ∧ SqT K H r xs ∧ 0 < xs.length ∧ xs.length ≤ 100 ∧ ∀ H' v, v ∈ xs → Keep p H H' → StL K H' a p ns → Q v H'
theorem ok_law_pick (L : Lib P K mg A) : FnOk P w K mg base CX0 3 L.law_pick.f L.law_pick.fd ["state", "row"] (spPick K) := by
  have GD : FnOk P w K mg base CX0 2 L.law_draw.f L.law_draw.fd ["state", "many"] (spDraw K) := ok_law_draw L
  refine L.law_pick.F.ok sc_law_pick (fun vs H Q E h => ?_) (fun cdv A' outer s H vs Q E hr h => ?_)
  · obtain ⟨a, p, r, ns, xs, rfl, _⟩ := h
    rfl
  · obtain ⟨a, p, r, ns, xs, rfl, hst, ht, h0, h1, q⟩ := h
    refine ⟨_, pss_one (ps_ret (pe_ix ix_tup (pv 1) (pe_call GD hr (by rfl) L.law_draw.g L.law_draw.F.kp L.law_draw.b .nil pass0 (pa_cons (pv 0) (pa_cons (pe_callB call_len_seq (by rfl) L.z_len PySem.boot_len (pa_cons (pv 1) pa_nil)) pa_nil))) (fun _ _ => rfl))), ?_⟩
    refine ⟨_, rfl, _, rfl, _, rfl, r, _, rfl, .inr ht, a, p, ns, _, rfl, hst, by omega, by omega, fun H' i k1 st i0 i1 => ?_⟩
    obtain ⟨j, rfl⟩ : ∃ j : Nat, i = (j : Int) := ⟨i.toNat, by omega⟩
    have hj : j < xs.length := by omega
    obtain ⟨x, k, hp, _⟩ := hst
    exact ⟨r, xs, _, xs[j], rfl, rfl, sqt_keep k1 hp ht, atI_nat (List.getElem?_eq_getElem hj), q H' _ (List.getElem_mem hj) k1 st⟩
end
end My
namespace My
open PySem L2 SX XT XS XE XD XL
open C8 (pss_cut tCut cutS_slice pe_gc)
section
variable {P : Program} {w : World} {K : PySem.W.Frag} {mg : Str → Option Value} {base : Heap} {A : Ads}
def spCI (A : Ads) : Sp := fun vs H Q _ => ∃ x dx v1 v2 v3, vs = [.ref x, v1, v2, v3] ∧ H x = some (.ins A.Closure dx []) ∧ ∀ H', Keep x H H' → H' x = some (.ins A.Closure dx [("number", v1), ("wanted", v2), ("scope", v3)]) → Q .non H'
theorem ok_Closure_init (L : Lib P K mg A) : FnOk P w K mg base CX0 1 L.Closure_init.f L.Closure_init.fd ["self", "number", "wanted", "scope"] (spCI A) := by
  refine L.Closure_init.F.ok sc_Closure_init (fun vs H Q E h => ?_) (fun cdv A' outer s H vs Q E hr h => ?_)
  · obtain ⟨x, dx, v1, v2, v3, rfl, _⟩ := h
    rfl
  · obtain ⟨x, dx, v1, v2, v3, rfl, hx, q⟩ := h
    refine ⟨_, (pss_cons (ps_fld (pv 0) (pv 1) rfl)
      (pss_cons (ps_fld (pv 0) (pv 2) rfl)
      (pss_one (ps_fld (pv 0) (pv 3) rfl)))), ?_⟩
    refine ⟨_, rfl, _, rfl, x, A.Closure, dx, _, rfl, hx, L.c_Closure.cl, L.n_Closure_number, (by show 0 < 1000; decide), ?_⟩
    refine ⟨_, rfl, _, rfl, x, A.Closure, dx, _, rfl, upd_same, L.c_Closure.cl, L.n_Closure_wanted, (by show 1 < 1000; decide), ?_⟩
    refine ⟨_, rfl, _, rfl, x, A.Closure, dx, _, rfl, upd_same, L.c_Closure.cl, L.n_Closure_scope, (by show 2 < 1000; decide), ?_⟩
    exact q _ (fun b o e n => by rw [upd_ne n, upd_ne n, upd_ne n]; exact e) upd_same
def spBI (A : Ads) : Sp := fun vs H Q _ => ∃ x dx v1 v2, vs = [.ref x, v1, v2] ∧ H x = some (.ins A.Bound dx []) ∧ ∀ H', Keep x H H' → H' x = some (.ins A.Bound dx [("owner", v1), ("function", v2)]) → Q .non H'
theorem ok_Bound_init (L : Lib P K mg A) : FnOk P w K mg base CX0 1 L.Bound_init.f L.Bound_init.fd ["self", "owner", "function"] (spBI A) := by
  refine L.Bound_init.F.ok sc_Bound_init (fun vs H Q E h => ?_) (fun cdv A' outer s H vs Q E hr h => ?_)
  · obtain ⟨x, dx, v1, v2, rfl, _⟩ := h
    rfl
  · obtain ⟨x, dx, v1, v2, rfl, hx, q⟩ := h
    refine ⟨_, (pss_cons (ps_fld (pv 0) (pv 1) rfl)
      (pss_one (ps_fld (pv 0) (pv 2) rfl))), ?_⟩
    refine ⟨_, rfl, _, rfl, x, A.Bound, dx, _, rfl, hx, L.c_Bound.cl, L.n_Bound_owner, (by show 0 < 1000; decide), ?_⟩
    refine ⟨_, rfl, _, rfl, x, A.Bound, dx, _, rfl, upd_same, L.c_Bound.cl, L.n_Bound_function, (by show 1 < 1000; decide), ?_⟩
    exact q _ (fun b o e n => by rw [upd_ne n, upd_ne n]; exact e) upd_same
/-! ### quoted -/
def spQu : Sp := fun vs H Q _ => ∃ x : Str, vs = [.str x] ∧ x.length ≤ 1000 ∧ Q (.str (XQ.qText x)) H
theorem ok_quoted (L : Lib P K mg A) : FnOk P w K mg base CX0 1 L.quoted.f L.quoted.fd ["text"] spQu := by
  refine XQ.okT L.quoted.F sc_quoted (by decide +kernel) (by decide) (fun vs H Q E h => ?_) (fun cdv A' outer s H vs Q E hr h => ?_)
  · obtain ⟨x, rfl, _⟩ := h
    rfl
  · obtain ⟨x, rfl, hx, q⟩ := h
    refine ⟨_, psst_cons (XQ.pst_set (i := 1) sc_quoted.nd rfl (.inl rfl) (CwR.pet_replT (CwR.pet_replT (CwR.pet_replC (pv 0)))))
      (PSsT.of (pss_one (ps_ret (pe_op op_add_str (pe_op op_add_str pe_str (pv 1)) pe_str)))), ?_⟩
    have h1 := TK.replace_len x "\\" "\\\\"
    have h2 := TK.replace_len (Txt.replace x "\\" "\\\\") "\"" "\\\""
    have h3 := TK.replace_len (Txt.replace (Txt.replace x "\\" "\\\\") "\"" "\\\"") "\n" "\\n"
    have l1 : (("\\\\" : Str)).length = 2 := by decide +kernel
    have l2 : (("\\\"" : Str)).length = 2 := by decide +kernel
    have l3 : (("\\n" : Str)).length = 2 := by decide +kernel
    have l4 : (("\"" : Str)).length = 1 := by decide +kernel
    rw [l1] at h1
    rw [l2] at h2
    rw [l3] at h3
    have hz : ∀ n : Nat, n ≤ 100000 → n ≤ sizeLine := fun n h => by rw [sizeLine_eq]; omega
    refine ⟨_, rfl, x, rfl, by rw [l1]; omega, _, rfl, by rw [l2]; omega, _, rfl, by rw [l3]; omega, ?_⟩
    refine ⟨_, rfl, _, _, rfl, rfl, hz _ (by rw [l4]; omega), _, _, rfl, rfl, hz _ (by rw [Str.length_append, l4]; omega), q⟩
end
end My
namespace My
open PySem L2 SX XT XS XE XD XL
open C8 (pss_cut tCut cutS_slice pe_gc)
section
variable {P : Program} {w : World} {K : PySem.W.Frag} {mg : Str → Option Value} {base : Heap} {A : Ads}
/-- where a Form stands: itself, its pieces, the numbers around -/
structure Fa where
  f : Addr
  p : Addr
  r : Addr
def formF (s p r : Addr) (most size : Nat) : List (Str × V) := [("store", .ref s), ("most", .int (most : Nat)), ("pieces", .ref p), ("size", .int (size : Nat)), ("around", .ref r)]
def szP (ps : List Str) : Nat := (ps.map Str.length).sum
structure FormAt (A : Ads) (H : Hp) (a : Fa) (s : Addr) (most : Nat) (ps : List Str) (ar : List Nat) : Prop where
  f : ∃ dx, H a.f = some (.ins A.Form dx (formF s a.p a.r most (szP ps)))
  p : H a.p = some (.lst (ps.map V.str))
  r : H a.r = some (.lst (ar.map fun n => V.int (n : Nat)))
  pr : a.p ≠ a.r
theorem FormAt.np {H : Hp} {a : Fa} {s : Addr} {most : Nat} {ps : List Str} {ar : List Nat} (h : FormAt A H a s most ps ar) : a.f ≠ a.p ∧ a.f ≠ a.r := by
  obtain ⟨dx, e⟩ := h.f
  exact ⟨fun z => (by rw [z, h.p] at e; cases e), fun z => (by rw [z, h.r] at e; cases e)⟩
/-- nothing but the form changes -/
def Fk (a : Fa) (H H' : Hp) : Prop := ∀ b u, H b = some u → b ≠ a.f → b ≠ a.p → b ≠ a.r → H' b = some u
theorem Fk.trans {a : Fa} {H H1 H2 : Hp} (x : Fk a H H1) (y : Fk a H1 H2) : Fk a H H2 := fun b u e n1 n2 n3 => y b u (x b u e n1 n2 n3) n1 n2 n3
theorem Fk.same {a : Fa} {H H' : Hp} (s : Same H H') : Fk a H H' := fun b u e _ _ _ => s b u e
theorem FormAt.same {H H' : Hp} {a : Fa} {s : Addr} {most : Nat} {ps : List Str} {ar : List Nat} (sm : Same H H') (h : FormAt A H a s most ps ar) : FormAt A H' a s most ps ar := by
  obtain ⟨dx, e⟩ := h.f
  exact ⟨⟨dx, sm _ _ e⟩, sm _ _ h.p, sm _ _ h.r, h.pr⟩
theorem fm_store (s p r : Addr) (m n : Nat) : (formF s p r m n).lookup ("store" : Str) = some (.ref s) := lk_hit
theorem fm_most (s p r : Addr) (m n : Nat) : (formF s p r m n).lookup ("most" : Str) = some (.int (m : Nat)) := by
  unfold formF
  rw [lk_skip (by decide +kernel)]; exact lk_hit
theorem fm_pieces (s p r : Addr) (m n : Nat) : (formF s p r m n).lookup ("pieces" : Str) = some (.ref p) := by
  unfold formF
  rw [lk_skip (by decide +kernel), lk_skip (by decide +kernel)]; exact lk_hit
theorem fm_size (s p r : Addr) (m n : Nat) : (formF s p r m n).lookup ("size" : Str) = some (.int (n : Nat)) := by
  unfold formF
  rw [lk_skip (by decide +kernel), lk_skip (by decide +kernel), lk_skip (by decide +kernel)]; exact lk_hit
theorem fm_around (s p r : Addr) (m n : Nat) : (formF s p r m n).lookup ("around" : Str) = some (.ref r) := by
  unfold formF
  rw [lk_skip (by decide +kernel), lk_skip (by decide +kernel), lk_skip (by decide +kernel), lk_skip (by decide +kernel)]; exact lk_hit
theorem fm_no {n : Str} (s p r : Addr) (m k : Nat) (h1 : (n == ("store" : Str)) = false) (h2 : (n == ("most" : Str)) = false) (h3 : (n == ("pieces" : Str)) = false) (h4 : (n == ("size" : Str)) = false) (h5 : (n == ("around" : Str)) = false) : (formF s p r m k).lookup n = none := by
  unfold formF
  rw [lk_skip h1, lk_skip h2, lk_skip h3, lk_skip h4, lk_skip h5]; rfl
def spFI (A : Ads) : Sp := fun vs H Q _ => ∃ (x dx s : Addr) (most : Nat), vs = [.ref x, .ref s, .int (most : Nat)] ∧ H x = some (.ins A.Form dx []) ∧ ∀ H' (a : Fa), a.f = x → Keep x H H' → FormAt A H' a s most [] [] → H a.p = none → H a.r = none → Q .non H'
theorem ok_Form_init (L : Lib P K mg A) : FnOk P w K mg base CX0 1 L.Form_init.f L.Form_init.fd ["self", "store", "most"] (spFI A) := by
  refine L.Form_init.F.ok sc_Form_init (fun vs H Q E h => ?_) (fun cdv A' outer s H vs Q E hr h => ?_)
  · obtain ⟨x, dx, st, most, rfl, _⟩ := h
    rfl
  · obtain ⟨x, dx, st, most, rfl, hx, q⟩ := h
    refine ⟨_, (pss_cons (ps_fld (pv 0) (pv 1) rfl)
      (pss_cons (ps_fld (pv 0) (pv 2) rfl)
      (pss_cons (ps_fld (pv 0) (pe_lst pa_nil) rfl)
      (pss_cons (ps_fld (pv 0) pe_int rfl)
      (pss_one (ps_fld (pv 0) (pe_lst pa_nil) rfl)))))), ?_⟩
    refine ⟨_, rfl, _, rfl, x, A.Form, dx, _, rfl, hx, L.c_Form.cl, L.n_Form_store, (by show 0 < 1000; decide), ?_⟩
    refine ⟨_, rfl, _, rfl, x, A.Form, dx, _, rfl, upd_same, L.c_Form.cl, L.n_Form_most, (by show 1 < 1000; decide), ?_⟩
    refine ⟨Nat.zero_le _, fun p hp => ?_⟩
    have npx : p ≠ x := (ne_of_none upd_same hp).symm
    refine ⟨_, rfl, x, A.Form, dx, _, rfl, by rw [upd_ne npx.symm]; exact upd_same, L.c_Form.cl, L.n_Form_pieces, (by show 2 < 1000; decide), ?_⟩
    refine ⟨_, rfl, x, A.Form, dx, _, rfl, upd_same, L.c_Form.cl, L.n_Form_size, (by show 3 < 1000; decide), ?_⟩
    refine ⟨Nat.zero_le _, fun r hr' => ?_⟩
    have nrx : r ≠ x := (ne_of_none upd_same hr').symm
    refine ⟨_, rfl, x, A.Form, dx, _, rfl, by rw [upd_ne nrx.symm]; exact upd_same, L.c_Form.cl, L.n_Form_around, (by show 4 < 1000; decide), ?_⟩
    have nrp : r ≠ p := fun z => by
      rw [z, upd_ne npx, upd_ne npx, upd_same] at hr'
      cases hr'
    have hp0 : H p = none := by rw [upd_ne npx, upd_ne npx] at hp; exact hp
    have hr0 : H r = none := by rw [upd_ne nrx, upd_ne nrx, upd_ne nrp, upd_ne nrx, upd_ne nrx] at hr'; exact hr'
    refine q _ ⟨x, p, r⟩ rfl (fun b u e n => ?_) ⟨⟨dx, upd_same⟩, ?_, ?_, nrp.symm⟩ hp0 hr0
    · have nbp := ne_of_none e hp0
      have nbr := ne_of_none e hr0
      rw [upd_ne n, upd_ne nbr, upd_ne n, upd_ne n, upd_ne nbp, upd_ne n, upd_ne n]
      exact e
    · rw [upd_ne npx, upd_ne nrp.symm, upd_ne npx, upd_ne npx, upd_same]; rfl
    · rw [upd_ne nrx, upd_same]; rfl
def spFAdd (A : Ads) : Sp := fun vs H Q _ => ∃ (a : Fa) (s : Addr) (most : Nat) (ps : List Str) (ar : List Nat) (t : Str), vs = [.ref a.f, .str t] ∧ FormAt A H a s most ps ar ∧ ps.length < 1000000 ∧ t.length ≤ 100000 ∧
  ∀ H', Fk a H H' → FormAt A H' a s most (ps ++ [t]) ar → Q .non H'
theorem szP_snoc (ps : List Str) (t : Str) : szP (ps ++ [t]) = szP ps + t.length := by
  unfold szP
  rw [List.map_append, List.sum_append]
  rfl
theorem ok_Form_add (L : Lib P K mg A) : FnOk P w K mg base CX0 1 L.Form_add.f L.Form_add.fd ["self", "text"] (spFAdd A) := by
  refine L.Form_add.F.ok sc_Form_add (fun vs H Q E h => ?_) (fun cdv A' outer s H vs Q E hr h => ?_)
  · obtain ⟨a, st, most, ps, ar, t, rfl, _⟩ := h
    rfl
  · obtain ⟨a, st, most, ps, ar, t, rfl, hF, hl, ht, q⟩ := h
    refine ⟨_, (pss_cons (ps_expr (pe_bm PySem.F.plainAttrs_list PySem.F.slot_list_append PySem.F.type_list_append mt_append (pe_fld (pv 0) rfl) (pa_cons (pv 1) pa_nil)))
      (pss_one (ps_fldaug (pv 0) (pe_callB call_len_str (by rfl) L.z_len PySem.boot_len (pa_cons (pv 1) pa_nil)) in_add))), ?_⟩
    obtain ⟨dx, e⟩ := hF.f
    obtain ⟨n1, n2⟩ := hF.np
    refine ⟨_, rfl, a.f, A.Form, dx, _, .ref a.p, rfl, e, L.c_Form.cl, L.n_Form_pieces, fm_pieces _ _ _ _ _, .inl ⟨rfl, _, SqL.of hF.p⟩, _, rfl, a.p, _, _, rfl, rfl, hF.p, Nat.lt_of_lt_of_le (m := 1000000) (by rw [List.length_map]; exact hl) (by decide), ?_⟩
    have e2 : upd H a.p (.lst (ps.map V.str ++ [.str t])) a.f = some (.ins A.Form dx (formF st a.p a.r most (szP ps))) := by rw [upd_ne n1]; exact e
    have hs : t.length ≤ sizeLine := Nat.le_trans ht (by decide)
    refine ⟨_, rfl, a.f, A.Form, dx, _, _, rfl, e2, L.c_Form.cl, L.n_Form_size, fm_size _ _ _ _ _, _, rfl, t, rfl, hs, _, _, rfl, rfl, dx, _, e2, (by show 5 < 1000; decide), ?_⟩
    refine q _ (fun b u e m1 m2 _ => by rw [upd_ne m1, upd_ne m2]; exact e) ⟨⟨dx, ?_⟩, ?_, ?_, hF.pr⟩
    · rw [upd_same, szP_snoc]
      rfl
    · rw [upd_ne n1.symm, upd_same, List.map_append]; rfl
    · rw [upd_ne n2.symm, upd_ne hF.pr.symm]; exact hF.r
def spFEn (A : Ads) : Sp := fun vs H Q _ => ∃ (a : Fa) (s : Addr) (most : Nat) (ps : List Str) (ar : List Nat), vs = [.ref a.f] ∧ FormAt A H a s most ps ar ∧ Q (.bl (decide (most < szP ps))) H
theorem ok_Form_is_enough (L : Lib P K mg A) : FnOk P w K mg base CX0 1 L.Form_is_enough.f L.Form_is_enough.fd ["self"] (spFEn A) := by
  refine L.Form_is_enough.F.ok sc_Form_is_enough (fun vs H Q E h => ?_) (fun cdv A' outer s H vs Q E hr h => ?_)
  · obtain ⟨a, st, most, ps, ar, rfl, _⟩ := h
    rfl
  · obtain ⟨a, st, most, ps, ar, rfl, hF, q⟩ := h
    refine ⟨_, (pss_one (ps_ret (pe_cmpR op_gt (pe_fld (pv 0) rfl) (pe_fld (pv 0) rfl) (nomark _)))), ?_⟩
    obtain ⟨dx, e⟩ := hF.f
    refine ⟨_, rfl, a.f, A.Form, dx, _, _, rfl, e, L.c_Form.cl, L.n_Form_size, fm_size _ _ _ _ _, _, rfl, a.f, A.Form, dx, _, _, rfl, e, L.c_Form.cl, L.n_Form_most, fm_most _ _ _ _ _, _, _, rfl, rfl, ?_⟩
    have : decide ((most : Int) < (szP ps : Int)) = decide (most < szP ps) := by
      by_cases h : most < szP ps
      · rw [decide_eq_true h, decide_eq_true (by omega)]
      · rw [decide_eq_false h, decide_eq_false (by omega)]
    show Q (.bl (decide ((most : Int) < (szP ps : Int)))) H
    rw [this]
    exact q
end
end My
namespace My
open PySem L2 SX XT XS XE XD XL
open C8 (pss_cut tCut cutS_slice pe_gc)
def nameOf (S : St) : Dv → Str
  | .obj k => match S.things[k]? with
    | some (.kin nm _ _) => nm
    | _ => ""
  | _ => ""
def headS (m : Nat) (x : Str) : Str := cutS x none (some ((m + 1 : Nat) : Int))
def plainS (S : St) (m : Nat) : Dv → Str
  | .non => "null"
  | .bl b => if b then "true" else "false"
  | .int i => Str.ofString (toString i)
  | .str x => XQ.qText (headS m x)
  | .bi _ => "<function>"
  | .obj n => match S.things[n]? with
    | some (.inst o _) => ("<" : Str) ++ headS m (nameOf S o) ++ (">" : Str)
    | some (.kin nm _ _) => ("<class " : Str) ++ headS m nm ++ (">" : Str)
    | _ => "<function>"
def okW (S : St) : Dv → Prop
  | .obj n => n < S.things.length
  | .str x => x.length ≤ 1000
  | .int i => i.natAbs.log2 < 1920
  | _ => True
def okT (S : St) : Th → Prop
  | .inst o _ => ∃ k nm par ms, o = .obj k ∧ S.things[k]? = some (.kin nm par ms)
  | .kin nm _ _ => nm.length ≤ 1000
  | .parts ds => ds.length ≤ 1000 ∧ ∀ d ∈ ds, okW S d
  | .table es => ∀ e ∈ es, keyD e.1 = true ∧ okW S e.1 ∧ okW S e.2
  | _ => True
def WfS (S : St) : Prop := S.things.length ≤ 100000 ∧ ∀ (n : Nat) t, S.things[n]? = some t → okT S t
def thO (S : St) : Dv → Option Th
  | .obj n => S.things[n]?
  | _ => none
section
variable {P : Program} {w : World} {K : PySem.W.Frag} {mg : Str → Option Value} {base : Heap} {A : Ads}
def OptTh (P : Program) (w : World) (A : Ads) (H : Hp) (v : V) : Option Th → Prop
  | none => v = .non
  | some t => ∃ x m, v = .ref x ∧ ThAt P w A H x m t
def tyO (A : Ads) : Option Th → Value
  | none => .type "NoneType"
  | some t => .ref (clsT A t)
theorem opt_ty (L : Lib P K mg A) {H : Hp} {v : V} {o : Option Th} (h : OptTh P w A H v o) : TyX K H v (tyO A o) := by
  cases o with
  | none => cases h; exact .base .non
  | some t =>
    obtain ⟨x, m, rfl, ht⟩ := h
    exact th_ty L ht
theorem opt_P (L : Lib P K mg A) (o : Option Th) : PySem.W.kitOne K (tyO A o) (.ref A.Parts) = some (o.any tP) := by
  cases o with
  | none => exact L.k_NoneType_Parts
  | some t => exact kit_P L t
theorem opt_T (L : Lib P K mg A) (o : Option Th) : PySem.W.kitOne K (tyO A o) (.ref A.Table) = some (o.any tT) := by
  cases o with
  | none => exact L.k_NoneType_Table
  | some t => exact kit_T L t
theorem opt_I (L : Lib P K mg A) (o : Option Th) : PySem.W.kitOne K (tyO A o) (.ref A.Instance) = some (o.any tI) := by
  cases o with
  | none => exact L.k_NoneType_Instance
  | some t => exact kit_I L t
theorem opt_K (L : Lib P K mg A) (o : Option Th) : PySem.W.kitOne K (tyO A o) (.ref A.Kin) = some (o.any tK) := by
  cases o with
  | none => exact L.k_NoneType_Kin
  | some t => exact kit_K L t
theorem headS_len (m : Nat) (x : Str) : (headS m x).length ≤ x.length := cutS_length _ _ _
def spPlain (P : Program) (w : World) (A : Ads) : Sp := fun vs H Q _ => ∃ (a : Fa) (sa : Sa) (S : St) (most : Nat) (ps : List Str) (ar : List Nat) (v tv : V) (d : Dv), vs = [.ref a.f, v, tv] ∧ FormAt A H a sa.s most ps ar ∧ SM P w A H sa S ∧ Has A H v d ∧ OptTh P w A H tv (thO S d) ∧ WfS S ∧ okW S d ∧
  Q (.str (plainS S most d)) H
theorem ok_plain_form (L : Lib P K mg A) : FnOk P w K mg base CX0 2 L.plain_form.f L.plain_form.fd ["form", "value", "thing"] (spPlain P w A) := by
  have G_quoted : FnOk P w K mg base CX0 1 L.quoted.f L.quoted.fd ["text"] spQu := ok_quoted L
  have G_Store_at : FnOk P w K mg base CX0 1 L.Store_at.f L.Store_at.fd ["self", "ref"] (spAt P w A) := ok_Store_at L
  refine L.plain_form.F.ok sc_plain_form (fun vs H Q E h => ?_) (fun cdv A' outer s H vs Q E hr h => ?_)
  · obtain ⟨a, sa, S, most, ps, ar, v, tv, d, rfl, _⟩ := h
    rfl
  · obtain ⟨a, sa, S, most, ps, ar, v, tv, d, rfl, hF, hS, hv, ht, hw, ok, q⟩ := h
    obtain ⟨dx, ef⟩ := hF.f
    have hz : ∀ n : Nat, n ≤ 100000 → n ≤ sizeLine := fun n h => by rw [sizeLine_eq]; omega
    refine ⟨_, (pss_cons (ps_if (pt_cmpR op_isN (pv 1) pe_non (nomark _))
        (pss_one (ps_ret pe_str))
        pss_nil)
      (pss_cons (ps_if (pt_val (pe_callB call_isi (by rfl) L.z_isinstance (by decide +kernel) (pa_cons (pv 1) (pa_cons (pe_bltn (v := .ty "bool") (by rfl) L.z_bool (by decide +kernel) rfl) pa_nil))))
        (pss_one (ps_ret (pe_ifExp (pt_val (pv 1)) pe_str pe_str)))
        pss_nil)
      (pss_cons (ps_if (pt_val (pe_callB call_isi (by rfl) L.z_isinstance (by decide +kernel) (pa_cons (pv 1) (pa_cons (pe_bltn (v := .ty "int") (by rfl) L.z_int (by decide +kernel) rfl) pa_nil))))
        (pss_one (ps_ret (pe_callTy call_str_int (by rfl) L.z_str (by decide +kernel) (pa_cons (pv 1) pa_nil))))
        pss_nil)
      (pss_cons (ps_if (pt_val (pe_callB call_isi (by rfl) L.z_isinstance (by decide +kernel) (pa_cons (pv 1) (pa_cons (pe_bltn (v := .ty "str") (by rfl) L.z_str (by decide +kernel) rfl) pa_nil))))
        (pss_one (ps_ret (pe_call G_quoted (hr.mono (by omega)) (by rfl) L.quoted.g L.quoted.F.kp L.quoted.b .nil pass0 (pa_cons (pe_slice sl_str (pv 1) po_none (po_some (pe_op op_add (pe_fld (pv 0) rfl) pe_int))) pa_nil))))
        pss_nil)
      (pss_cons (ps_if (pt_val (pe_callB call_isi (by rfl) L.z_isinstance (by decide +kernel) (pa_cons (pv 2) (pa_cons (pe_gc (v := .ref A.Instance) (by rfl) ⟨_, L.c_Instance.g, rfl⟩) pa_nil))))
        (pss_cons (ps_set (i := 3) sc_plain_form.nd rfl (.inl rfl) (pe_fld (pe_meth (pe_fld (pv 0) rfl) L.c_Store.cl L.Store_at.m G_Store_at (hr.mono (by omega)) L.Store_at.b .nil pass0 (pa_cons (pe_fld (pv 2) rfl) pa_nil)) rfl))
      (pss_one (ps_ret (pe_op op_add_str (pe_op op_add_str pe_str (pe_slice sl_str (pv 3) po_none (po_some (pe_op op_add (pe_fld (pv 0) rfl) pe_int)))) pe_str))))
        pss_nil)
      (pss_cons (ps_if (pt_val (pe_callB call_isi (by rfl) L.z_isinstance (by decide +kernel) (pa_cons (pv 2) (pa_cons (pe_gc (v := .ref A.Kin) (by rfl) ⟨_, L.c_Kin.g, rfl⟩) pa_nil))))
        (pss_one (ps_ret (pe_op op_add_str (pe_op op_add_str pe_str (pe_slice sl_str (pe_fld (pv 2) rfl) po_none (po_some (pe_op op_add (pe_fld (pv 0) rfl) pe_int)))) pe_str)))
        pss_nil)
      (pss_one (ps_ret pe_str)))))))), ?_⟩
    refine ⟨_, rfl, rfl, _, rfl, ite_or (fun e => ?_) fun e => ?_⟩
    · cases d with
      | non => exact q
      | bl b => cases hv; cases e
      | int b => cases hv; cases e
      | str b => cases hv; cases e
      | obj n => obtain ⟨_, _, rfl, _⟩ := hv; cases e
      | bi n => obtain ⟨_, _, rfl, _⟩ := hv; cases e
    refine ⟨_, rfl, _, .ty "bool", _, .type "bool", _, rfl, .ty _, has_ty L hv, kit_bool L d, _, rfl, ite_or (fun e => ?_) fun e1 => ?_⟩
    · cases d with
      | bl b =>
        cases hv
        refine ⟨_, rfl, b, rfl, ?_⟩
        cases b
        · exact q
        · exact q
      | _ => cases e
    refine ⟨_, rfl, _, .ty "int", _, .type "int", _, rfl, .ty _, has_ty L hv, kit_int L d, _, rfl, ite_or (fun e => ?_) fun e2 => ?_⟩
    · cases d with
      | int b =>
        cases hv
        exact ⟨_, rfl, b, rfl, ok, q⟩
      | bl b => cases e1
      | _ => cases e
    refine ⟨_, rfl, _, .ty "str", _, .type "str", _, rfl, .ty _, has_ty L hv, kit_str L d, _, rfl, ite_or (fun e => ?_) fun e3 => ?_⟩
    · cases d with
      | str x =>
        cases hv
        have hx : x.length ≤ 1000 := ok
        refine ⟨_, rfl, _, rfl, a.f, A.Form, dx, _, _, rfl, ef, L.c_Form.cl, L.n_Form_most, fm_most _ _ _ _ _, _, _, rfl, rfl, _, rfl, x, rfl, hz _ (by omega), headS most x, rfl, Nat.le_trans (headS_len _ _) hx, q⟩
      | _ => cases e
    refine ⟨_, rfl, _, .ref A.Instance, _, .ref A.Instance, _, rfl, .own _, opt_ty L ht, opt_I L _, _, rfl, ite_or (fun e => ?_) fun e4 => ?_⟩
    · cases d with
      | obj n =>
        cases hth : S.things[n]? with
        | none =>
          have e : (S.things[n]?).any tI = true := e
          rw [hth] at e
          cases e
        | some t =>
          have e : (S.things[n]?).any tI = true := e
          rw [hth] at e
          have ht : OptTh P w A H tv S.things[n]? := ht
          rw [hth] at ht
          obtain ⟨x, m, rfl, ht⟩ := ht
          cases t with
          | inst o ns =>
            obtain ⟨k, nm, par, ms, rfl, hk⟩ := hw.2 n _ hth
            obtain ⟨dxi, vo, kvs, hx1, ho, _⟩ := id ht
            obtain ⟨xk, mk, hXk, _, dxk, vk, kvk, hk1, _⟩ := hS.get hk
            obtain ⟨rk, drk, rfl, hrk⟩ := id ho
            obtain ⟨dxs, hs0⟩ := hS.s_
            refine ⟨_, rfl, a.f, A.Form, dx, _, _, rfl, ef, L.c_Form.cl, L.n_Form_store, fm_store _ _ _ _ _, ?_⟩
            refine ⟨sa.s, dxs, _, rfl, hs0, st_no _ _ _ _ (by decide +kernel) (by decide +kernel) (by decide +kernel) (by decide +kernel), _, rfl, x, A.Instance, dxi, _, .ref rk, rfl, hx1, L.c_Instance.cl, L.n_Instance_owner, lk_hit, sa, S, rk, xk, k, rfl, hS, ho, hXk, ?_⟩
            have hnm : nm.length ≤ 1000 := hw.2 k _ hk
            have hcl : (headS most nm).length ≤ 1000 := Nat.le_trans (headS_len _ _) hnm
            have l1 : (("<" : Str)).length = 1 := by decide +kernel
            have l2 : ((">" : Str)).length = 1 := by decide +kernel
            refine ⟨xk, A.Kin, dxk, _, .str nm, rfl, hk1, L.c_Kin.cl, L.n_Kin_name, lk_hit, ?_⟩
            refine ⟨_, rfl, _, rfl, a.f, A.Form, dx, _, _, rfl, ef, L.c_Form.cl, L.n_Form_most, fm_most _ _ _ _ _, _, _, rfl, rfl, _, rfl, nm, rfl, hz _ (by omega), _, _, rfl, rfl, hz _ (by rw [l1]; show 1 + (headS most nm).length ≤ _; omega), _, _, rfl, rfl, hz _ (by rw [Str.length_append, l1, l2]; show 1 + (headS most nm).length + 1 ≤ _; omega), ?_⟩
            have eq : plainS S most (.obj n) = ("<" : Str) ++ headS most nm ++ (">" : Str) := by
              unfold plainS nameOf
              simp only [hth, hk]
            rw [eq] at q
            exact q
          | _ => cases e
      | _ => cases e
    refine ⟨_, rfl, _, .ref A.Kin, _, .ref A.Kin, _, rfl, .own _, opt_ty L ht, opt_K L _, _, rfl, ite_or (fun e => ?_) fun e5 => ?_⟩
    · cases d with
      | obj n =>
        cases hth : S.things[n]? with
        | none =>
          have e : (S.things[n]?).any tK = true := e
          rw [hth] at e
          cases e
        | some t =>
          have e : (S.things[n]?).any tK = true := e
          rw [hth] at e
          have ht : OptTh P w A H tv S.things[n]? := ht
          rw [hth] at ht
          obtain ⟨x, m, rfl, ht⟩ := ht
          cases t with
          | kin nm par ms =>
            obtain ⟨dxi, vo, kvs, hx1, ho, _⟩ := id ht
            have hnm : nm.length ≤ 1000 := hw.2 n _ hth
            have hcl : (headS most nm).length ≤ 1000 := Nat.le_trans (headS_len _ _) hnm
            have l1 : (("<class " : Str)).length = 7 := by decide +kernel
            have l2 : ((">" : Str)).length = 1 := by decide +kernel
            refine ⟨_, rfl, x, A.Kin, dxi, _, .str nm, rfl, hx1, L.c_Kin.cl, L.n_Kin_name, lk_hit, ?_⟩
            refine ⟨_, rfl, a.f, A.Form, dx, _, _, rfl, ef, L.c_Form.cl, L.n_Form_most, fm_most _ _ _ _ _, _, _, rfl, rfl, _, rfl, nm, rfl, hz _ (by omega), _, _, rfl, rfl, hz _ (by rw [l1]; show 7 + (headS most nm).length ≤ _; omega), _, _, rfl, rfl, hz _ (by rw [Str.length_append, l1, l2]; show 7 + (headS most nm).length + 1 ≤ _; omega), ?_⟩
            have eq : plainS S most (.obj n) = ("<class " : Str) ++ headS most nm ++ (">" : Str) := by
              unfold plainS
              simp only [hth]
            rw [eq] at q
            exact q
          | _ => cases e
      | _ => cases e
    have eq : plainS S most d = "<function>" := by
      cases d with
      | obj n =>
        have e4 : (S.things[n]?).any tI = false := e4
        have e5 : (S.things[n]?).any tK = false := e5
        unfold plainS
        cases hth : S.things[n]? with
        | none => simp only [hth]
        | some t =>
          rw [hth] at e4 e5
          cases t with
          | inst o ns => cases e4
          | kin nm par ms => cases e5
          | _ => simp only [hth]
      | bi n => rfl
      | non => cases hv; cases e
      | bl b => cases e1
      | int b => cases e2
      | str b => cases e3
    rw [eq] at q
    exact q
end
end My
namespace My
open PySem L2 SX XT XS XE XD XL
open C8 (pss_cut tCut cutS_slice pe_gc)
def rowsT : Th → List (List Dv)
  | .parts ds => ds.map fun d => [d]
  | .table es => es.map fun e => [e.1, e.2]
  | _ => []
def Rws (A : Ads) (H : Hp) : List V → List (List Dv) → Prop
  | [], [] => True
  | v :: vs, r :: rs => (∃ q us, v = .ref q ∧ H q = some (.tup us) ∧ Hs A H us r) ∧ Rws A H vs rs
  | _, _ => False
section
variable {P : Program} {w : World} {K : PySem.W.Frag} {mg : Str → Option Value} {base : Heap} {A : Ads}
theorem Rws.imp {H H' : Hp} (k : Vk A H H') : ∀ {vs : List V} {rs : List (List Dv)}, Rws A H vs rs → Rws A H' vs rs
  | [], [], _ => trivial
  | _ :: _, _ :: _, ⟨⟨q, us, e, h1, h2⟩, r⟩ => ⟨⟨q, us, e, k.t _ _ h1, h2.imp k.v⟩, Rws.imp k r⟩
  | [], _ :: _, h => h.elim
  | _ :: _, [], h => h.elim
theorem Rws.len {H : Hp} : ∀ {vs : List V} {rs : List (List Dv)}, Rws A H vs rs → vs.length = rs.length
  | [], [], _ => rfl
  | _ :: _, _ :: _, h => by rw [List.length_cons, List.length_cons, Rws.len h.2]
  | [], _ :: _, h => h.elim
  | _ :: _, [], h => h.elim
theorem Rws.at {H : Hp} : ∀ {vs : List V} {rs : List (List Dv)} {i : Nat} {v : V}, Rws A H vs rs → vs[i]? = some v → ∃ r q us, rs[i]? = some r ∧ v = .ref q ∧ H q = some (.tup us) ∧ Hs A H us r
  | v :: _, r :: _, 0, _, ⟨⟨q, us, e, h1, h2⟩, _⟩, e' => by cases e'; exact ⟨r, q, us, rfl, e, h1, h2⟩
  | _ :: vs, _ :: rs, i + 1, v, h, e => by
    rw [List.getElem?_cons_succ] at e
    obtain ⟨r, h'⟩ := Rws.at h.2 e
    exact ⟨r, by rw [List.getElem?_cons_succ]; exact h'⟩
  | [], [], _, _, _, e => by cases e
  | [], _ :: _, _, _, h, _ => h.elim
  | _ :: _, [], _, _, h, _ => h.elim
theorem Rws.snoc {H : Hp} {q : Addr} {us : List V} {r : List Dv} : ∀ {vs : List V} {rs : List (List Dv)}, Rws A H vs rs → H q = some (.tup us) → Hs A H us r → Rws A H (vs ++ [.ref q]) (rs ++ [r])
  | [], [], _, h1, h2 => ⟨⟨q, us, rfl, h1, h2⟩, trivial⟩
  | _ :: _, _ :: _, h, h1, h2 => ⟨h.1, Rws.snoc h.2 h1 h2⟩
  | [], _ :: _, h, _, _ => h.elim
  | _ :: _, [], h, _, _ => h.elim
theorem ents_rws {H : Hp} : ∀ {es : List Ent} {ps : List (Dv × Dv)}, Ents A H es ps → Rws A H (es.map (·.2.2)) (ps.map fun e => [e.1, e.2])
  | [], [], _ => trivial
  | e :: _, p :: _, h => by
    obtain ⟨⟨hk, e1, q, v, e2, e3, e4⟩, hr⟩ := h
    exact ⟨⟨q, [e.1, v], e2, e3, by rw [e1]; exact key_has hk, e4, trivial⟩, ents_rws hr⟩
  | [], _ :: _, h => h.elim
  | _ :: _, [], h => h.elim
theorem vk_upd {H : Hp} {m : Addr} {u u' : HO} (hu : H m = some u) (n1 : ∀ C dx fs, u ≠ .ins C dx fs) (n2 : ∀ xs, u ≠ .tup xs) : Vk A H (upd H m u') := by
  have go : ∀ b w, H b = some w → w ≠ u → upd H m u' b = some w := fun b w e n => by
    rw [upd_ne fun z => by rw [z, hu] at e; exact n (Option.some.inj e).symm]
    exact e
  refine ⟨fun v d h => ?_, fun q xs e => go q _ e fun z => n2 _ z.symm⟩
  cases d with
  | obj n =>
    obtain ⟨b, dx, rfl, e⟩ := h
    exact ⟨b, dx, rfl, go b _ e fun z => n1 _ _ _ z.symm⟩
  | bi n =>
    obtain ⟨b, dx, rfl, e⟩ := h
    exact ⟨b, dx, rfl, go b _ e fun z => n1 _ _ _ z.symm⟩
  | _ => exact h
def spHeld (P : Program) (w : World) (A : Ads) : Sp := fun vs H Q _ => ∃ x m t, vs = [.ref x] ∧ ThAt P w A H x m t ∧ (tP t || tT t) = true ∧ (rowsT t).length ≤ 1000 ∧ ∀ H' l us, Same H H' → H l = none → H' l = some (.lst us) → Rws A H' us (rowsT t) → Q (.ref l) H'
theorem ok_held_by (L : Lib P K mg A) : FnOk P w K mg base CX0 2 L.held_by.f L.held_by.fd ["thing"] (spHeld P w A) := by
  have G_Table_pairs : FnOk P w K mg base CX0 1 L.Table_pairs.f L.Table_pairs.fd ["self"] (spTPairs P w A) := ok_Table_pairs L
  refine L.held_by.F.ok sc_held_by (fun vs H Q E h => ?_) (fun cdv A' outer s H vs Q E hr h => ?_)
  · obtain ⟨x, m, t, rfl, _⟩ := h
    rfl
  · obtain ⟨x, m, t, rfl, ht, hpt, hn, q⟩ := h
    refine ⟨_, (pss_cons (ps_if (pt_val (pe_callB call_isi (by rfl) L.z_isinstance (by decide +kernel) (pa_cons (pv 0) (pa_cons (pe_gc (v := .ref A.Table) (by rfl) ⟨_, L.c_Table.g, rfl⟩) pa_nil))))
        (pss_one (ps_ret (pe_meth0 (pv 0) L.c_Table.cl L.Table_pairs.m G_Table_pairs (hr.mono (by omega)) L.Table_pairs.b .nil pass0)))
        pss_nil)
      (pss_one (ps_ret (pe_lc (own := [("part", 1)]) (g := gName 1) (tt := tYes) (by rfl) sc_held_by.nd (pi_list (pe_fld (pv 0) rfl)) (blkOk_by (own := [("part", 1)]) (N := ["thing", "part"]) (sc := defScope (top 26)) (by decide +kernel)) (fun _ _ _ _ _ => (pg_name (i := 1) sc_held_by.nd rfl (.inl rfl))) (fun _ _ _ _ _ => pts_nil) (fun _ _ _ _ _ => (pe_tup (pa_cons (pv 1) pa_nil))))))), ?_⟩
    refine ⟨_, rfl, _, .ref A.Table, _, .ref A.Table, _, rfl, .own _, th_ty L ht, kit_T L t, _, rfl, ite_or (fun e => ?_) fun e => ?_⟩
    · cases t with
      | table es =>
        obtain ⟨ents, hT, hE, hnd, hle⟩ := id ht
        obtain ⟨⟨dx, hx1⟩, hd, _⟩ := id hT
        exact ⟨_, rfl, x, dx, _, rfl, hx1, tab_none (by decide +kernel), x, m, ents, rfl, hT, fun H' l s' nl hl => q H' l _ s' nl hl (ents_rws (hE.imp (fun _ _ h => h.sv (Same.sv s')) fun q xs e => s' _ _ e))⟩
      | _ => cases e
    · cases t with
      | parts ds =>
        obtain ⟨dx, us, e1, e2, e3⟩ := id ht
        have hul := e3.len
        have hn' : ds.length ≤ 1000 := by have : (rowsT (.parts ds)).length = ds.length := List.length_map _; omega
        refine ⟨_, rfl, x, A.Parts, dx, _, .ref m, rfl, e1, L.c_Parts.cl, L.n_Parts_held, lk_hit, m, rfl, ⟨_, SqL.of e2⟩, fun D nD => ?_⟩
        refine lc_list (K := K) (a := m) (xs := us) (fun i H' => Same H H' ∧ ∃ vs, H' D = some (.lst vs) ∧ Rws A H' vs (rowsT (.parts (ds.take i))) ∧ vs.length = i) ⟨same_upd nD, [], upd_same, trivial, rfl⟩ (fun i H' _ h => SqL.of (h.1 _ _ e2)) ?_ ?_
        · rintro i v H1 hv ⟨s1, vs, h1, h2, h3⟩
          have hi : i < us.length := (List.getElem?_eq_some_iff.mp hv).1
          obtain ⟨d, hd⟩ : ∃ d, ds[i]? = some d := ⟨_, List.getElem?_eq_getElem (by omega)⟩
          obtain ⟨v', hv', hvd⟩ := e3.at hd
          rw [hv] at hv'
          cases hv'
          refine ⟨rfl, _, rfl, by show 1 ≤ sizeLine; decide, fun T nT => ⟨vs, ?_, ?_, ?_⟩⟩
          · rw [upd_ne (ne_of_none h1 nT)]; exact h1
          · exact Nat.lt_of_lt_of_le (m := 1001) (by omega) (by decide)
          · have s2 : Same H1 (upd H1 T (.tup [v])) := same_upd nT
            have nTD : T ≠ D := (ne_of_none h1 nT).symm
            have vk : Vk A (upd H1 T (.tup [v])) (upd (upd H1 T (.tup [v])) D (.lst (vs ++ [.ref T]))) := vk_upd (u := .lst vs) (by rw [upd_ne nTD.symm]; exact h1) nofun nofun
            refine ⟨fun b u e => ?_, vs ++ [.ref T], upd_same, ?_, by rw [List.length_append, h3]; rfl⟩
            · rw [upd_ne (ne_of_none e nD)]; exact s2 _ _ (s1 _ _ e)
            · have : rowsT (.parts (ds.take (i + 1))) = rowsT (.parts (ds.take i)) ++ [[d]] := by
                show (ds.take (i + 1)).map _ = (ds.take i).map _ ++ _
                rw [List.take_add_one, hd, List.map_append]
                rfl
              rw [this]
              exact Rws.snoc (h2.imp ((Sv.vk (Same.sv s2)).trans vk)) (by rw [upd_ne nTD]; exact upd_same) (show Hs A _ [v] [d] from ⟨vk.v _ _ ((hvd.sv (Same.sv s1)).sv (Same.sv s2)), trivial⟩)
        · rintro H1 ⟨s1, vs, h1, h2, h3⟩
          rw [hul, List.take_length] at h2
          exact q H1 D vs s1 nD h1 h2
      | table es => cases e
      | _ => cases hpt
end
end My
namespace My
open PySem L2 SX XT XS XE XD XL
def opn : Th → Str
  | .table _ => "{"
  | _ => "["
def cls' : Th → Str
  | .table _ => "}"
  | _ => "]"
theorem opn_len (t : Th) : (opn t).length = 1 := by
  cases t with
  | table es => show (("{" : Str)).length = 1; decide +kernel
  | _ => show (("[" : Str)).length = 1; decide +kernel
theorem cls_len (t : Th) : (cls' t).length = 1 := by
  cases t with
  | table es => show (("}" : Str)).length = 1; decide +kernel
  | _ => show (("]" : Str)).length = 1; decide +kernel
def isC (t : Th) : Bool := tP t || tT t
def numD : Dv → Nat
  | .obj n => n
  | _ => 0
def tailW (w : Dv → List Str → List Str) : List Dv → List Str → List Str
  | [], ps => ps
  | d :: r, ps => tailW w r (w d (ps ++ [(": " : Str)]))
def rowW (w : Dv → List Str → List Str) : List Dv → List Str → List Str
  | [], ps => ps
  | d :: r, ps => tailW w r (w d ps)
def heldW (m : Nat) (w : Dv → List Str → List Str) : Str → List (List Dv) → List Str → List Str
  | _, [], ps => ps
  | g, r :: rs, ps => if m < szP ps then ps else heldW m w ", " rs (rowW w r (ps ++ [g]))
/-- the pieces behind a value was written -/
def wr (S : St) (m : Nat) : Nat → List Nat → Dv → List Str → List Str
  | 0, _, _, ps => ps
  | n + 1, ar, d, ps => match thO S d with
    | some t => if isC t = true then (if numD d ∈ ar ∨ 10 ≤ ar.length then ps ++ [opn t] ++ [("..." : Str)] else heldW m (wr S m n (ar ++ [numD d])) "" (rowsT t) (ps ++ [opn t])) ++ [cls' t] else ps ++ [plainS S m d]
    | none => ps ++ [plainS S m d]
/-- bounds of pieces: few, and not long -/
structure Few (m k : Nat) (ps : List Str) : Prop where
  c : ps.length ≤ 2 * szP ps
  z : szP ps ≤ m + k
def okPl (S : St) (m : Nat) (d : Dv) : Prop := 1 ≤ (plainS S m d).length ∧ (plainS S m d).length ≤ 2002
def cW : Nat → Nat := fun n => 2100 * n
theorem Few.add {m k : Nat} {ps : List Str} {t : Str} (h : Few m k ps) (h1 : 1 ≤ t.length) : Few m (k + t.length) (ps ++ [t]) := by
  refine ⟨?_, ?_⟩
  · rw [List.length_append, szP_snoc, List.length_singleton]
    have := h.c
    omega
  · rw [szP_snoc]
    have := h.z
    omega
theorem Few.mono {m k k' : Nat} {ps : List Str} (h : Few m k ps) (l : k ≤ k') : Few m k' ps := ⟨h.c, Nat.le_trans h.z (by omega)⟩
/-- all values of the store are told shortly -/
def PlS (S : St) (m : Nat) : Prop := ∀ d, okW S d → okPl S m d
/-- rows: one value, or a key and a value -/
def okRow (S : St) (r : List Dv) : Prop := (∃ d, r = [d] ∧ okW S d) ∨ ∃ k d, r = [k, d] ∧ thO S k = none ∧ okW S k ∧ okW S d
theorem rows_ok {S : St} {t : Th} (h : okT S t) : ∀ r ∈ rowsT t, okRow S r := by
  intro r hr
  cases t with
  | parts ds =>
    obtain ⟨d, hd, rfl⟩ := List.mem_map.mp hr
    exact .inl ⟨d, rfl, h.2 d hd⟩
  | table es =>
    obtain ⟨e, he, rfl⟩ := List.mem_map.mp hr
    obtain ⟨h1, h2, h3⟩ := h e he
    refine .inr ⟨e.1, e.2, rfl, ?_, h2, h3⟩
    cases hd : e.1 with
    | obj n => rw [hd] at h1; cases h1
    | _ => rfl
  | _ => cases hr
theorem wr_few {S : St} {m : Nat} (hw : WfS S) (hp : PlS S m) : ∀ (n : Nat) (ar : List Nat) (d : Dv) (ps : List Str), okW S d → Few m 2006 ps → ps.length ≤ 2 * szP ps → szP (wr S m n ar d ps) ≤ max (szP ps) m + cW n ∧ (wr S m n ar d ps).length ≤ 2 * szP (wr S m n ar d ps) := by
  intro n
  induction n with
  | zero => intro ar d ps _ h hc; exact ⟨by unfold wr cW; omega, hc⟩
  | succ n ih =>
    intro ar d ps ok h hc
    have hpl := hp d ok
    have plain : szP (ps ++ [plainS S m d]) ≤ max (szP ps) m + cW (n + 1) ∧ (ps ++ [plainS S m d]).length ≤ 2 * szP (ps ++ [plainS S m d]) := by
      rw [szP_snoc, List.length_append, List.length_singleton]
      have := hpl.1
      have := hpl.2
      unfold cW
      omega
    unfold wr
    cases ht : thO S d with
    | none => exact plain
    | some t =>
      dsimp only
      by_cases hC : isC t = true
      · rw [if_pos hC]
        have lo : (opn t).length = 1 := opn_len t
        have lc : (cls' t).length = 1 := cls_len t
        have l3 : (("..." : Str)).length = 3 := by decide +kernel
        by_cases hs : numD d ∈ ar ∨ 10 ≤ ar.length
        · rw [if_pos hs]
          simp only [szP_snoc, List.length_append, List.length_singleton]
          unfold cW
          omega
        · rw [if_neg hs]
          have okt : okT S t := by
            cases d with
            | obj k => exact hw.2 k t ht
            | _ => cases ht
          have key : ∀ (rs : List (List Dv)) (g : Str) (qs : List Str), (∀ r ∈ rs, okRow S r) → g.length ≤ 2 → (g.length = 0 → qs.length + 1 ≤ 2 * szP qs) → qs.length ≤ 2 * szP qs → szP qs ≤ max (szP ps + 1) m + 2010 + cW n →
              szP (heldW m (wr S m n (ar ++ [numD d])) g rs qs) ≤ max (szP ps + 1) m + 2010 + cW n ∧ (heldW m (wr S m n (ar ++ [numD d])) g rs qs).length ≤ 2 * szP (heldW m (wr S m n (ar ++ [numD d])) g rs qs) := by
            intro rs
            induction rs with
            | nil => intro g qs _ _ _ h1 h2; exact ⟨h2, h1⟩
            | cons r rs ih2 =>
              intro g qs hr hg hg0 h1 h2
              unfold heldW
              by_cases he : m < szP qs
              · rw [if_pos he]; exact ⟨h2, h1⟩
              · rw [if_neg he]
                have hq1 : (qs ++ [g]).length ≤ 2 * szP (qs ++ [g]) := by
                  rw [List.length_append, szP_snoc, List.length_singleton]
                  by_cases g0 : g.length = 0
                  · have := hg0 g0; omega
                  · omega
                have hq2 : szP (qs ++ [g]) ≤ m + 2 := by rw [szP_snoc]; omega
                have lc2 : ((", " : Str)).length = 2 := by decide +kernel
                have row : szP (rowW (wr S m n (ar ++ [numD d])) r (qs ++ [g])) ≤ m + 2010 + cW n ∧ (rowW (wr S m n (ar ++ [numD d])) r (qs ++ [g])).length ≤ 2 * szP (rowW (wr S m n (ar ++ [numD d])) r (qs ++ [g])) := by
                  rcases hr r (by simp) with ⟨d', rfl, ok'⟩ | ⟨k, d', rfl, hk, okk, ok'⟩
                  · obtain ⟨a1, a2⟩ := ih (ar ++ [numD d]) d' (qs ++ [g]) ok' ⟨hq1, by omega⟩ hq1
                    refine ⟨?_, a2⟩
                    show szP (wr S m n (ar ++ [numD d]) d' (qs ++ [g])) ≤ _
                    omega
                  · have lk : ((": " : Str)).length = 2 := by decide +kernel
                    have hkp := hp k okk
                    cases n with
                    | zero =>
                      show szP (qs ++ [g] ++ [(": " : Str)]) ≤ _ ∧ (qs ++ [g] ++ [(": " : Str)]).length ≤ 2 * szP (qs ++ [g] ++ [(": " : Str)])
                      rw [szP_snoc, List.length_append, List.length_singleton]
                      omega
                    | succ n' =>
                      have e1 : wr S m (n' + 1) (ar ++ [numD d]) k (qs ++ [g]) = qs ++ [g] ++ [plainS S m k] := by
                        conv => lhs; unfold wr
                        rw [hk]
                      have z1 := hkp.1
                      have z2 := hkp.2
                      have hq3 : szP (qs ++ [g] ++ [plainS S m k] ++ [(": " : Str)]) ≤ m + 2006 := by rw [szP_snoc, szP_snoc]; omega
                      have hq4 : (qs ++ [g] ++ [plainS S m k] ++ [(": " : Str)]).length ≤ 2 * szP (qs ++ [g] ++ [plainS S m k] ++ [(": " : Str)]) := by
                        rw [szP_snoc, szP_snoc, List.length_append, List.length_append, List.length_singleton, List.length_singleton]
                        omega
                      obtain ⟨a1, a2⟩ := ih (ar ++ [numD d]) d' (qs ++ [g] ++ [plainS S m k] ++ [(": " : Str)]) ok' ⟨hq4, hq3⟩ hq4
                      have e2 : rowW (wr S m (n' + 1) (ar ++ [numD d])) [k, d'] (qs ++ [g]) = wr S m (n' + 1) (ar ++ [numD d]) d' (qs ++ [g] ++ [plainS S m k] ++ [(": " : Str)]) := by
                        show wr S m (n' + 1) (ar ++ [numD d]) d' (wr S m (n' + 1) (ar ++ [numD d]) k (qs ++ [g]) ++ [(": " : Str)]) = _
                        rw [e1]
                      rw [e2]
                      exact ⟨by omega, a2⟩
                exact ih2 ", " _ (fun r h => hr r (List.mem_cons_of_mem _ h)) (by omega) (fun z => by omega) row.2 (by omega)
          obtain ⟨b1, b2⟩ := key (rowsT t) "" (ps ++ [opn t]) (rows_ok okt) (by decide +kernel) (fun _ => by rw [List.length_append, szP_snoc, List.length_singleton]; omega) (by rw [List.length_append, szP_snoc, List.length_singleton]; omega) (by rw [szP_snoc]; omega)
          rw [szP_snoc, List.length_append, List.length_singleton]
          have : cW (n + 1) = cW n + 2100 := by unfold cW; omega
          omega
      · rw [if_neg hC]
        exact plain
end My
namespace My
open PySem L2 SX XT XS XE XD XL
open C8 (pss_cut tCut cutS_slice pe_gc)
section
variable {P : Program} {w : World} {K : PySem.W.Frag} {mg : Str → Option Value} {base : Heap} {A : Ads}
/-- a form beside a store -/
structure FS (P : Program) (w : World) (A : Ads) (H : Hp) (a : Fa) (sa : Sa) (S : St) (m : Nat) (ps : List Str) (ar : List Nat) : Prop where
  F : FormAt A H a sa.s m ps ar
  sm : SM P w A H sa S
  nf : ¬ sa.own a.f
  np : ¬ sa.own a.p
  nr : ¬ sa.own a.r
  wf : WfS S
  pl : PlS S m
  hm : m ≤ 1000
theorem Fk.vk (L : Lib P K mg A) {H H' : Hp} {a : Fa} {sa : Sa} {S : St} {m : Nat} {ps : List Str} {ar : List Nat} (h : FS P w A H a sa S m ps ar) (k : Fk a H H') : Vk A H H' := by
  obtain ⟨dx, e0⟩ := h.F.f
  have go : ∀ b u, H b = some u → ((∃ dx fs, u = .ins A.Ref dx fs) ∨ (∃ dx fs, u = .ins A.Builtin dx fs) ∨ ∃ xs, u = .tup xs) → H' b = some u := fun b u e hu => by
    refine k b u e (fun z => ?_) (fun z => ?_) (fun z => ?_)
    · rw [z, e0] at e
      cases e
      rcases hu with ⟨_, _, q⟩ | ⟨_, _, q⟩ | ⟨_, q⟩
      · injection q with q1 q2 q3; exact ne_cls L.k_Form_Ref q1
      · injection q with q1 q2 q3; exact ne_cls L.k_Form_Builtin q1
      · cases q
    · rw [z, h.F.p] at e
      cases e
      rcases hu with ⟨_, _, q⟩ | ⟨_, _, q⟩ | ⟨_, q⟩ <;> cases q
    · rw [z, h.F.r] at e
      cases e
      rcases hu with ⟨_, _, q⟩ | ⟨_, _, q⟩ | ⟨_, q⟩ <;> cases q
  refine ⟨fun v d h => ?_, fun q xs e => go q _ e (.inr (.inr ⟨_, rfl⟩))⟩
  cases d with
  | obj n =>
    obtain ⟨b, dx, rfl, e⟩ := h
    exact ⟨b, dx, rfl, go b _ e (.inl ⟨_, _, rfl⟩)⟩
  | bi n =>
    obtain ⟨b, dx, rfl, e⟩ := h
    exact ⟨b, dx, rfl, go b _ e (.inr (.inl ⟨_, _, rfl⟩))⟩
  | _ => exact h
theorem FS.step (L : Lib P K mg A) {H H' : Hp} {a : Fa} {sa : Sa} {S : St} {m : Nat} {ps ps' : List Str} {ar ar' : List Nat} (h : FS P w A H a sa S m ps ar) (k : Fk a H H') (F : FormAt A H' a sa.s m ps' ar') : FS P w A H' a sa S m ps' ar' :=
  ⟨F, h.sm.imp (k.vk L h) fun b u o e => k b u e (fun z => h.nf (z ▸ o)) (fun z => h.np (z ▸ o)) (fun z => h.nr (z ▸ o)), h.nf, h.np, h.nr, h.wf, h.pl, h.hm⟩
theorem FS.same (L : Lib P K mg A) {H H' : Hp} {a : Fa} {sa : Sa} {S : St} {m : Nat} {ps : List Str} {ar : List Nat} (h : FS P w A H a sa S m ps ar) (s : Same H H') : FS P w A H' a sa S m ps ar := h.step L (Fk.same s) (h.F.same s)
theorem wr_plain {S : St} {m n : Nat} {ar : List Nat} {d : Dv} {ps : List Str} (h : thO S d = none) (hn : 1 ≤ n) : wr S m n ar d ps = ps ++ [plainS S m d] := by
  obtain ⟨n', rfl⟩ : ∃ n', n = n' + 1 := ⟨n - 1, by omega⟩
  conv => lhs; unfold wr
  rw [h]
theorem row_few {S : St} {m n : Nat} (hw : WfS S) (hp : PlS S m) (hn : 1 ≤ n) {ar : List Nat} {r : List Dv} {q : List Str} (hr : okRow S r) (h1 : q.length ≤ 2 * szP q) (h2 : szP q ≤ m + 2) :
    szP (rowW (wr S m n ar) r q) ≤ m + 2010 + cW n ∧ (rowW (wr S m n ar) r q).length ≤ 2 * szP (rowW (wr S m n ar) r q) := by
  rcases hr with ⟨d', rfl, ok'⟩ | ⟨k, d', rfl, hk, okk, ok'⟩
  · obtain ⟨a1, a2⟩ := wr_few hw hp n ar d' q ok' ⟨h1, by omega⟩ h1
    refine ⟨?_, a2⟩
    show szP (wr S m n ar d' q) ≤ _
    omega
  · have lk : ((": " : Str)).length = 2 := by decide +kernel
    have hkp := hp k okk
    have z1 := hkp.1
    have z2 := hkp.2
    have hq3 : szP (q ++ [plainS S m k] ++ [(": " : Str)]) ≤ m + 2006 := by rw [szP_snoc, szP_snoc]; omega
    have hq4 : (q ++ [plainS S m k] ++ [(": " : Str)]).length ≤ 2 * szP (q ++ [plainS S m k] ++ [(": " : Str)]) := by
      rw [szP_snoc, szP_snoc, List.length_append, List.length_append, List.length_singleton, List.length_singleton]
      omega
    obtain ⟨a1, a2⟩ := wr_few hw hp n ar d' (q ++ [plainS S m k] ++ [(": " : Str)]) ok' ⟨hq4, hq3⟩ hq4
    have e2 : rowW (wr S m n ar) [k, d'] q = wr S m n ar d' (q ++ [plainS S m k] ++ [(": " : Str)]) := by
      show wr S m n ar d' (wr S m n ar k q ++ [(": " : Str)]) = _
      rw [wr_plain hk hn]
    rw [e2]
    exact ⟨by omega, a2⟩
theorem heldW_stop {m : Nat} {w : Dv → List Str → List Str} {g : Str} {r : List Dv} {rs : List (List Dv)} {p : List Str} (h : m < szP p) : heldW m w g (r :: rs) p = p := by
  unfold heldW
  rw [if_pos h]
theorem heldW_go {m : Nat} {w : Dv → List Str → List Str} {g : Str} {r : List Dv} {rs : List (List Dv)} {p : List Str} (h : ¬ m < szP p) : heldW m w g (r :: rs) p = heldW m w ", " rs (rowW w r (p ++ [g])) := by
  conv => lhs; unfold heldW
  rw [if_neg h]
/-- a row half written -/
def zrow (w : Dv → List Str → List Str) (r : List Dv) (q : List Str) : Nat → List Str
  | 0 => q
  | 1 => match r with
    | d :: _ => w d q
    | [] => q
  | _ + 2 => match r with
    | d :: d2 :: _ => w d2 (w d q ++ [(": " : Str)])
    | _ => q
def spWr (P : Program) (w : World) (A : Ads) (n : Nat) : Sp := fun vs H Q _ => ∃ (a : Fa) (sa : Sa) (S : St) (m : Nat) (ps : List Str) (ar : List Nat) (v : V) (d : Dv), vs = [.ref a.f, v] ∧ FS P w A H a sa S m ps ar ∧ Has A H v d ∧ okW S d ∧ ar.length + n = 11 ∧ 1 ≤ n ∧ ps.length ≤ 2 * szP ps ∧ szP ps ≤ m + 2006 ∧
  ∀ H', Fk a H H' → FormAt A H' a sa.s m (wr S m n ar d ps) ar → Q .non H'
def spHe (P : Program) (w : World) (A : Ads) (n : Nat) : Sp := fun vs H Q _ => ∃ (a : Fa) (sa : Sa) (S : St) (m : Nat) (ps : List Str) (ar : List Nat) (x mm : Addr) (t : Th), vs = [.ref a.f, .ref x] ∧ FS P w A H a sa S m ps ar ∧ ThAt P w A H x mm t ∧ isC t = true ∧ okT S t ∧ (rowsT t).length ≤ 1000 ∧ ar.length + n = 11 ∧ 1 ≤ n ∧ ps.length + 1 ≤ 2 * szP ps ∧ szP ps ≤ m + 2007 ∧
  ∀ H', Fk a H H' → FormAt A H' a sa.s m (heldW m (wr S m n ar) "" (rowsT t) ps) ar → Q .non H'
theorem ok_write_held (L : Lib P K mg A) {n : Nat} (G_write : FnOk P w K mg base CX0 (3 * n + 3) L.write.f L.write.fd ["form", "value"] (spWr P w A n)) : FnOk P w K mg base CX0 (3 * n + 4) L.write_held.f L.write_held.fd ["form", "thing"] (spHe P w A n) := by
  have G_held_by : FnOk P w K mg base CX0 2 L.held_by.f L.held_by.fd ["thing"] (spHeld P w A) := ok_held_by L
  have G_Form_add : FnOk P w K mg base CX0 1 L.Form_add.f L.Form_add.fd ["self", "text"] (spFAdd A) := ok_Form_add L
  have G_Form_is_enough : FnOk P w K mg base CX0 1 L.Form_is_enough.f L.Form_is_enough.fd ["self"] (spFEn A) := ok_Form_is_enough L
  refine L.write_held.F.ok sc_write_held (fun vs H Q E h => ?_) (fun cdv A' outer s H vs Q E hr h => ?_)
  · obtain ⟨a, sa, S, m, ps, ar, x, mm, t, rfl, _⟩ := h
    rfl
  · obtain ⟨a, sa, S, m, ps, ar, x, mm, t, rfl, hF, ht, hC, okt, hlen, har, hn, hc, hz, q⟩ := h
    refine ⟨_, (pss_cons (ps_set (i := 2) sc_write_held.nd rfl (.inl rfl) pe_str)
      (pss_one (ps_for PassesOwn.never rfl (pi_list (pe_call G_held_by (hr.mono (by omega)) (by rfl) L.held_by.g L.held_by.F.kp L.held_by.b .nil pass0 (pa_cons (pv 1) pa_nil))) (pg_name (i := 3) sc_write_held.nd rfl (.inl rfl))
        (pss_cons (ps_if (pt_val (pe_meth0 (pv 0) L.c_Form.cl L.Form_is_enough.m G_Form_is_enough (hr.mono (by omega)) L.Form_is_enough.b .nil pass0))
        (pss_one ps_retN)
        pss_nil)
      (pss_cons (ps_expr (pe_meth (pv 0) L.c_Form.cl L.Form_add.m G_Form_add (hr.mono (by omega)) L.Form_add.b .nil pass0 (pa_cons (pv 2) pa_nil)))
      (pss_cons (ps_set (i := 2) sc_write_held.nd rfl (.inl rfl) pe_str)
      (pss_one (ps_for PassesOwn.never rfl (pi_enumT (by rfl) L.z_enumerate (pa_cons (pv 3) pa_nil)) (pg_tup (by rfl) (pgs_cons (pg_name (i := 4) sc_write_held.nd rfl (.inl rfl)) (pgs_cons (pg_name (i := 5) sc_write_held.nd rfl (.inl rfl)) pgs_nil)))
        (pss_cons (ps_if (pt_cmpR op_gt (pv 4) pe_int (nomark _))
        (pss_one (ps_expr (pe_meth (pv 0) L.c_Form.cl L.Form_add.m G_Form_add (hr.mono (by omega)) L.Form_add.b .nil pass0 (pa_cons pe_str pa_nil))))
        pss_nil)
      (pss_one (ps_expr (pe_call G_write (hr.mono (by omega)) (by rfl) L.write.g L.write.F.kp L.write.b .nil pass0 (pa_cons (pv 0) (pa_cons (pv 5) pa_nil)))))))))))))), ?_⟩
    refine ⟨_, rfl, x, mm, t, rfl, ht, hC, hlen, fun H1 l rows s1 nl hl hrw => ?_⟩
    have F1 := hF.same L s1
    have nlf : l ≠ a.f := fun z => by obtain ⟨dx, e⟩ := hF.F.f; rw [← z, nl] at e; cases e
    have nlp : l ≠ a.p := fun z => by have e := hF.F.p; rw [← z, nl] at e; cases e
    have nlr : l ≠ a.r := fun z => by have e := hF.F.r; rw [← z, nl] at e; cases e
    have hrl := hrw.len
    refine ⟨l, rfl, ⟨_, SqL.of hl⟩, for_list (K := K) (a := l) (xs := rows) (fun i σ H' => ∃ (g : Str) (p : List Str) (y3 y4 y5 : Option V), σ = [some (.ref a.f), some (.ref x), some (.str g), y3, y4, y5] ∧ Fk a H H' ∧ FS P w A H' a sa S m p ar ∧ H' l = some (.lst rows) ∧ Rws A H' rows (rowsT t) ∧
      heldW m (wr S m n ar) g ((rowsT t).drop i) p = heldW m (wr S m n ar) "" (rowsT t) ps ∧ g.length ≤ 2 ∧ (g.length = 0 → p.length + 1 ≤ 2 * szP p) ∧ p.length ≤ 2 * szP p ∧ szP p ≤ m + 2010 + cW n)
      ⟨"", ps, none, none, none, rfl, Fk.same s1, F1, hl, hrw, rfl, by decide +kernel, fun _ => hc, by omega, by omega⟩ (fun i σ H' _ h => by obtain ⟨_, _, _, _, _, _, _, _, h, _⟩ := h; exact SqL.of h) ?_ ?_⟩
    · rintro i v σ H2 hv ⟨g, p, y3, y4, y5, rfl, k2, F2, hl2, hr2, he, hg, hg0, hp1, hp2⟩
      obtain ⟨r, q1, us, hri, rfl, hq1, hus⟩ := hr2.at hv
      obtain ⟨dx2, ef2⟩ := F2.F.f
      have hil := (List.getElem?_eq_some_iff.mp hri).1
      have ed : (rowsT t).drop i = r :: (rowsT t).drop (i + 1) := by
        rw [List.drop_eq_getElem_cons hil]
        rw [(List.getElem?_eq_some_iff.mp hri).2]
      have hrow := rows_ok okt r (List.mem_of_getElem? hri)
      have hnl : cW n ≤ 2100 * 11 := by unfold cW; omega
      have hm := F2.hm
      have noF : ∀ nm : Str, (nm == ("store" : Str)) = false → (nm == ("most" : Str)) = false → (nm == ("pieces" : Str)) = false → (nm == ("size" : Str)) = false → (nm == ("around" : Str)) = false → (formF sa.s a.p a.r m (szP p)).lookup nm = none := fun nm => fm_no _ _ _ _ _
      refine ⟨_, rfl, a.f, dx2, _, rfl, ef2, fm_no _ _ _ _ _ (by decide +kernel) (by decide +kernel) (by decide +kernel) (by decide +kernel) (by decide +kernel), a, sa.s, m, p, ar, rfl, F2.F, _, rfl, ite_or (fun e => ?_) fun e => ?_⟩
      · have hlt : m < szP p := of_decide_eq_true e
        rw [ed, heldW_stop hlt] at he
        refine q H2 k2 ?_
        rw [← he]
        exact F2.F
      have hlt : ¬ m < szP p := of_decide_eq_false e
      rw [ed] at he
      have he' : heldW m (wr S m n ar) ", " ((rowsT t).drop (i + 1)) (rowW (wr S m n ar) r (p ++ [g])) = heldW m (wr S m n ar) "" (rowsT t) ps := by
        rw [← he, heldW_go hlt]
      refine ⟨_, rfl, a.f, dx2, _, rfl, ef2, fm_no _ _ _ _ _ (by decide +kernel) (by decide +kernel) (by decide +kernel) (by decide +kernel) (by decide +kernel), _, rfl, a, sa.s, m, p, ar, g, rfl, F2.F, by omega, by omega, fun H3 k3 F3' => ?_⟩
      have F3 := F2.step L k3 F3'
      have vk3 := k3.vk L F2
      have hl3 := k3 _ _ hl2 nlf nlp nlr
      have hq3 := vk3.t _ _ hq1
      have hus3 := hus.imp vk3.v
      have hr3 := hr2.imp vk3
      have hul := hus.len
      have hq1b : (p ++ [g]).length ≤ 2 * szP (p ++ [g]) := by
        rw [List.length_append, szP_snoc, List.length_singleton]
        by_cases g0 : g.length = 0
        · have := hg0 g0; omega
        · omega
      have hq2b : szP (p ++ [g]) ≤ m + 2 := by rw [szP_snoc]; omega
      obtain ⟨rf1, rf2⟩ := row_few (ar := ar) F2.wf F2.pl hn hrow hq1b hq2b
      have lcm : ((", " : Str)).length = 2 := by decide +kernel
      have lkm : ((": " : Str)).length = 2 := by decide +kernel
      refine ⟨_, rfl, q1, us, rfl, SqT.of hq3, for_it (walk_enumT (xs := us)) (fun j σ H' => ∃ y4 y5 : Option V, σ = [some (.ref a.f), some (.ref x), some (.str ", "), some (.ref q1), y4, y5] ∧ Fk a H H' ∧ FS P w A H' a sa S m (zrow (wr S m n ar) r (p ++ [g]) j) ar ∧ H' l = some (.lst rows) ∧ Rws A H' rows (rowsT t) ∧ H' q1 = some (.tup us) ∧ Hs A H' us r)
        ⟨y4, y5, rfl, k2.trans k3, F3, hl3, hr3, hq3, hus3⟩ (fun j σ H' _ h => by obtain ⟨_, _, _, _, _, _, _, h, _⟩ := h; exact SqT.of h) ?_ ?_⟩
      · rintro j vx σ H4 H5 hj ⟨y4', y5', rfl, k4, F4, hl4, hr4, hq4, hus4⟩ ⟨T, xa, xb, rfl, nT, rfl, exa, exb⟩
        cases exa
        have s5 := same_upd (o := .tup [.int (j : Nat), xb]) nT
        have F5 := F4.same L s5
        have k5 : Fk a H _ := k4.trans (Fk.same s5)
        obtain ⟨d, hd⟩ : ∃ d, r[j]? = some d := ⟨_, List.getElem?_eq_getElem (by omega)⟩
        obtain ⟨u, hu, hud⟩ := hus4.at hd
        have hxb : us[j]? = some xb := exb
        rw [hxb] at hu
        cases hu
        have vk5 : Vk A H4 (upd H4 T (.tup [.int (j : Nat), xb])) := Sv.vk (Same.sv s5)
        have fin : ∀ (qq : List Str) (H6 : Hp), Fk a H H6 → Vk A (upd H4 T (.tup [.int (j : Nat), xb])) H6 → FS P w A H6 a sa S m qq ar → H6 l = some (.lst rows) → okW S d → qq.length ≤ 2 * szP qq → szP qq ≤ m + 2006 → wr S m n ar d qq = zrow (wr S m n ar) r (p ++ [g]) (j + 1) →
            spWr P w A n [.ref a.f, xb] H6 (fun _ H' => ∃ y4 y5 : Option V, [some (.ref a.f), some (.ref x), some (.str ", "), some (.ref q1), some (.int (j : Nat)), some xb] = [some (.ref a.f), some (.ref x), some (.str ", "), some (.ref q1), y4, y5] ∧ Fk a H H' ∧ FS P w A H' a sa S m (zrow (wr S m n ar) r (p ++ [g]) (j + 1)) ar ∧ H' l = some (.lst rows) ∧ Rws A H' rows (rowsT t) ∧ H' q1 = some (.tup us) ∧ Hs A H' us r) E0 :=
          fun qq H6 k6 vk6 F6 hl6 okd b1 b2 ew => ⟨a, sa, S, m, qq, ar, xb, d, rfl, F6, vk6.v _ _ (vk5.v _ _ hud), okd, har, hn, b1, b2, fun H7 k7 F7 => by
            rw [ew] at F7
            have vk7 := k7.vk L F6
            exact ⟨_, _, rfl, k6.trans k7, F6.step L k7 F7, k7 _ _ hl6 nlf nlp nlr, ((hr4.imp vk5).imp vk6).imp vk7, vk7.t _ _ (vk6.t _ _ (vk5.t _ _ hq4)), ((hus4.imp vk5.v).imp vk6.v).imp vk7.v⟩⟩
        refine ⟨T, _, rfl, SqT.of upd_same, rfl, _, _, rfl, _, _, rfl, rfl, ?_⟩
        refine ⟨_, rfl, _, _, rfl, rfl, _, rfl, ite_or (fun e => ?_) fun e => ?_⟩
        · have hj0 : 0 < j := by
            have : (0 : Int) < (j : Int) := of_decide_eq_true e
            omega
          rcases hrow with ⟨d', rfl, _⟩ | ⟨k, d', rfl, hk, okk, okd⟩
          · exact absurd (show us.length = 1 from hul) (by omega)
          · have hj1 : j = 1 := by
              have : us.length = 2 := hul
              omega
            subst hj1
            cases hd
            obtain ⟨dx5, ef5⟩ := F5.F.f
            have hkp := F2.pl k okk
            have z1 := hkp.1
            have z2 := hkp.2
            have ez1 : zrow (wr S m n ar) [k, d] (p ++ [g]) 1 = p ++ [g] ++ [plainS S m k] := wr_plain hk hn
            rw [ez1] at F5 ef5
            have lq : (p ++ [g] ++ [plainS S m k]).length < 1000000 := by
              have : (p ++ [g] ++ [plainS S m k]).length ≤ 2 * szP (p ++ [g] ++ [plainS S m k]) := by
                rw [szP_snoc, List.length_append, List.length_singleton]; omega
              rw [szP_snoc] at this
              omega
            refine ⟨_, rfl, a.f, dx5, _, rfl, ef5, fm_no _ _ _ _ _ (by decide +kernel) (by decide +kernel) (by decide +kernel) (by decide +kernel) (by decide +kernel), a, sa.s, m, p ++ [g] ++ [plainS S m k], ar, ": ", rfl, F5.F, lq, by rw [lkm]; omega, fun H6 k6 F6' => ?_⟩
            have F6 := F5.step L k6 F6'
            refine ⟨_, rfl, _, rfl, fin _ H6 (k5.trans k6) (k6.vk L F5) F6 (k6 _ _ (s5 _ _ hl4) nlf nlp nlr) okd ?_ ?_ ?_⟩
            · rw [szP_snoc, szP_snoc, List.length_append, List.length_append, List.length_singleton, List.length_singleton]
              omega
            · rw [szP_snoc, szP_snoc]; omega
            · show _ = wr S m n ar d (wr S m n ar k (p ++ [g]) ++ [(": " : Str)])
              rw [wr_plain hk hn]
        · have hj0 : j = 0 := by
            have : ¬ (0 : Int) < (j : Int) := of_decide_eq_false e
            omega
          subst hj0
          have okd : okW S d ∧ wr S m n ar d (p ++ [g]) = zrow (wr S m n ar) r (p ++ [g]) 1 := by
            rcases hrow with ⟨d', rfl, okd⟩ | ⟨k, d', rfl, hk, okk, okd⟩
            · cases hd; exact ⟨okd, rfl⟩
            · cases hd; exact ⟨okk, rfl⟩
          exact ⟨_, rfl, _, rfl, fin (p ++ [g]) _ k5 Vk.rfl' F5 (s5 _ _ hl4) okd.1 hq1b (by omega) okd.2⟩
      · rintro σ H4 ⟨y4', y5', rfl, k4, F4, hl4, hr4, hq4, hus4⟩
        have ez : zrow (wr S m n ar) r (p ++ [g]) us.length = rowW (wr S m n ar) r (p ++ [g]) := by
          rcases hrow with ⟨d', rfl, _⟩ | ⟨k, d', rfl, _⟩
          · rw [hul]; rfl
          · rw [hul]; rfl
        rw [ez] at F4
        exact ⟨_, _, _, _, _, rfl, k4, F4, hl4, hr4, he', by omega, fun z => by omega, rf2, rf1⟩
    · rintro σ H2 ⟨g, p, y3, y4, y5, rfl, k2, F2, hl2, hr2, he, hg, hg0, hp1, hp2⟩
      rw [hrl, List.drop_length] at he
      refine q H2 k2 ?_
      rw [← he]
      exact F2.F
end
end My
namespace My
open PySem L2 SX XT XS XE XD XL
open C8 (pss_cut tCut cutS_slice pe_gc)
section
variable {P : Program} {w : World} {K : PySem.W.Frag} {mg : Str → Option Value} {base : Heap} {A : Ads}
theorem held_few {S : St} {m n : Nat} (hw : WfS S) (hp : PlS S m) (hn : 1 ≤ n) {ar : List Nat} : ∀ (rs : List (List Dv)) (g : Str) (qs : List Str), (∀ r ∈ rs, okRow S r) → g.length ≤ 2 → (g.length = 0 → qs.length + 1 ≤ 2 * szP qs) → qs.length ≤ 2 * szP qs → szP qs ≤ m + 2010 + cW n →
    szP (heldW m (wr S m n ar) g rs qs) ≤ m + 2010 + cW n ∧ (heldW m (wr S m n ar) g rs qs).length ≤ 2 * szP (heldW m (wr S m n ar) g rs qs) := by
  intro rs
  induction rs with
  | nil => intro g qs _ _ _ h1 h2; exact ⟨h2, h1⟩
  | cons r rs ih =>
    intro g qs hr hg hg0 h1 h2
    by_cases he : m < szP qs
    · rw [heldW_stop he]; exact ⟨h2, h1⟩
    · rw [heldW_go he]
      have hq1 : (qs ++ [g]).length ≤ 2 * szP (qs ++ [g]) := by
        rw [List.length_append, szP_snoc, List.length_singleton]
        by_cases g0 : g.length = 0
        · have := hg0 g0; omega
        · omega
      have hq2 : szP (qs ++ [g]) ≤ m + 2 := by rw [szP_snoc]; omega
      have lc : ((", " : Str)).length = 2 := by decide +kernel
      obtain ⟨a1, a2⟩ := row_few (ar := ar) hw hp hn (hr r (by simp)) hq1 hq2
      exact ih ", " _ (fun r h => hr r (List.mem_cons_of_mem _ h)) (by omega) (fun z => by omega) a2 a1
def arW (S : St) (m n : Nat) (ar : List Nat) (i : Nat) (t : Th) (o c : Str) (ps : List Str) : List Str :=
  (if i ∈ ar ∨ 10 ≤ ar.length then ps ++ [o] ++ [("..." : Str)] else heldW m (wr S m n (ar ++ [i])) "" (rowsT t) (ps ++ [o])) ++ [c]
def spAr (P : Program) (w : World) (A : Ads) (n : Nat) : Sp := fun vs H Q _ => ∃ (a : Fa) (sa : Sa) (S : St) (m : Nat) (ps : List Str) (ar : List Nat) (r : Addr) (i : Nat) (t : Th) (o c : Str), vs = [.ref a.f, .ref r, .str o, .str c] ∧ FS P w A H a sa S m ps ar ∧ Has A H (.ref r) (.obj i) ∧ S.things[i]? = some t ∧ isC t = true ∧ (rowsT t).length ≤ 1000 ∧ o.length = 1 ∧ c.length = 1 ∧ ar.length + (n + 1) = 11 ∧ ps.length ≤ 2 * szP ps ∧ szP ps ≤ m + 2006 ∧
  ∀ H', Fk a H H' → FormAt A H' a sa.s m (arW S m n ar i t o c ps) ar → Q .non H'
theorem ok_write_around (L : Lib P K mg A) {n : Nat} (G_write_held : FnOk P w K mg base CX0 (3 * n + 4) L.write_held.f L.write_held.fd ["form", "thing"] (spHe P w A n)) : FnOk P w K mg base CX0 (3 * n + 5) L.write_around.f L.write_around.fd ["form", "ref", "opening", "closing"] (spAr P w A n) := by
  have G_Form_add : FnOk P w K mg base CX0 1 L.Form_add.f L.Form_add.fd ["self", "text"] (spFAdd A) := ok_Form_add L
  have G_Store_at : FnOk P w K mg base CX0 1 L.Store_at.f L.Store_at.fd ["self", "ref"] (spAt P w A) := ok_Store_at L
  refine L.write_around.F.ok sc_write_around (fun vs H Q E h => ?_) (fun cdv A' outer s H vs Q E hr h => ?_)
  · obtain ⟨a, sa, S, m, ps, ar, r, i, t, o, c, rfl, _⟩ := h
    rfl
  · obtain ⟨a, sa, S, m, ps, ar, r, i, t, o, c, rfl, hF, hR, hi, hC, hlen, ho, hcl, har, hc, hz, q⟩ := h
    have hm := hF.hm
    obtain ⟨dx, ef⟩ := hF.F.f
    refine ⟨_, (pss_cons (ps_expr (pe_meth (pv 0) L.c_Form.cl L.Form_add.m G_Form_add (hr.mono (by omega)) L.Form_add.b .nil pass0 (pa_cons (pv 2) pa_nil)))
      (pss_cons (ps_if (PW.pt (pw_or (pt_cmpR op_in_seq (pe_fld (pv 1) rfl) (pe_fld (pv 0) rfl) (by rfl)) (pw_or1 (pt_cmpR op_ge (pe_callB call_len_seq (by rfl) L.z_len PySem.boot_len (pa_cons (pe_fld (pv 0) rfl) pa_nil)) (pe_glob (v := .int 10) (by rfl) L.v_MOST_AROUND.choose_spec ⟨_, rfl⟩) (nomark _)))))
        (pss_one (ps_expr (pe_meth (pv 0) L.c_Form.cl L.Form_add.m G_Form_add (hr.mono (by omega)) L.Form_add.b .nil pass0 (pa_cons pe_str pa_nil))))
        (pss_cons (ps_expr (pe_bm PySem.F.plainAttrs_list PySem.F.slot_list_append PySem.F.type_list_append mt_append (pe_fld (pv 0) rfl) (pa_cons (pe_fld (pv 1) rfl) pa_nil)))
      (pss_cons (ps_expr (pe_call G_write_held (hr.mono (by omega)) (by rfl) L.write_held.g L.write_held.F.kp L.write_held.b .nil pass0 (pa_cons (pv 0) (pa_cons (pe_meth (pe_fld (pv 0) rfl) L.c_Store.cl L.Store_at.m G_Store_at (hr.mono (by omega)) L.Store_at.b .nil pass0 (pa_cons (pv 1) pa_nil)) pa_nil))))
      (pss_one (ps_expr (pe_bm0 PySem.F.plainAttrs_list PySem.F.slot_list_pop PySem.F.type_list_pop mt_pop (pe_fld (pv 0) rfl)))))))
      (pss_one (ps_expr (pe_meth (pv 0) L.c_Form.cl L.Form_add.m G_Form_add (hr.mono (by omega)) L.Form_add.b .nil pass0 (pa_cons (pv 3) pa_nil)))))), ?_⟩
    refine ⟨_, rfl, a.f, dx, _, rfl, ef, fm_no _ _ _ _ _ (by decide +kernel) (by decide +kernel) (by decide +kernel) (by decide +kernel) (by decide +kernel), _, rfl, a, sa.s, m, ps, ar, o, rfl, hF.F, by omega, by omega, fun H1 k1 F1' => ?_⟩
    have F1 := hF.step L k1 F1'
    have hR1 := (k1.vk L hF).v _ _ hR
    obtain ⟨dx1, ef1⟩ := F1.F.f
    obtain ⟨br, dr, er, hr1⟩ := id hR1
    cases er
    have l3 : (("..." : Str)).length = 3 := by decide +kernel
    have lp1 : (ps ++ [o]).length < 999990 := by
      rw [List.length_append, List.length_singleton]
      omega
    have lp1 : (ps ++ [o]).length < 1000000 := by omega
    have lp2 : (ps ++ [o]).length < 999990 := by
      rw [List.length_append, List.length_singleton]
      omega
    have flat : (ar.map fun n => V.int (n : Nat)).all flatV = true := by
      rw [List.all_eq_true]
      intro v hv
      obtain ⟨k, _, rfl⟩ := List.mem_map.mp hv
      rfl
    have inA : inV (.int (i : Nat)) (ar.map fun n => V.int (n : Nat)) = decide (i ∈ ar) := by
      unfold inV
      rw [List.any_map, Bool.eq_iff_iff, List.any_eq_true, decide_eq_true_iff]
      constructor
      · rintro ⟨k, hk, e⟩
        have e : ((k : Int) == (i : Int)) = true := e
        have : k = i := by have := eq_of_beq e; omega
        rw [← this]; exact hk
      · intro h
        exact ⟨i, h, beq_self_eq_true ((i : Nat) : Int)⟩
    refine ⟨_, rfl, r, A.Ref, dr, _, .int (i : Nat), rfl, hr1, L.c_Ref.cl, L.n_Ref_number, lk_hit, _, rfl, a.f, A.Form, dx1, _, .ref a.r, rfl, ef1, L.c_Form.cl, L.n_Form_around, fm_around _ _ _ _ _, a.r, _, rfl, .inl (SqL.of F1.F.r), rfl, flat, _, rfl, ?_⟩
    show if inV (.int (i : Nat)) (ar.map fun n => V.int (n : Nat)) = true then _ else _
    rw [inA]
    refine ite_or (fun e => ?_) fun e => ?_
    · have hst : i ∈ ar ∨ 10 ≤ ar.length := .inl (of_decide_eq_true e)
      {
        have ES : arW S m n ar i t o c ps = ps ++ [o] ++ [("..." : Str)] ++ [c] := by
          unfold arW
          rw [if_pos hst]
        refine ⟨_, rfl, a.f, dx1, _, rfl, ef1, fm_no _ _ _ _ _ (by decide +kernel) (by decide +kernel) (by decide +kernel) (by decide +kernel) (by decide +kernel), a, sa.s, m, _, ar, "...", rfl, F1.F, lp1, by rw [l3]; decide, fun H2 k2 F2' => ?_⟩
        have F2 := F1.step L k2 F2'
        obtain ⟨dx2, ef2⟩ := F2.F.f
        refine ⟨_, rfl, a.f, dx2, _, rfl, ef2, fm_no _ _ _ _ _ (by decide +kernel) (by decide +kernel) (by decide +kernel) (by decide +kernel) (by decide +kernel), _, rfl, a, sa.s, m, _, ar, c, rfl, F2.F, by rw [List.length_append, List.length_singleton]; omega, by omega, fun H3 k3 F3 => ?_⟩
        exact q H3 ((k1.trans k2).trans k3) (by rw [ES]; exact F3) }
    refine ⟨_, rfl, a.f, A.Form, dx1, _, .ref a.r, rfl, ef1, L.c_Form.cl, L.n_Form_around, fm_around _ _ _ _ _, a.r, _, rfl, .inl (SqL.of F1.F.r), _, _, rfl, rfl, _, rfl, ite_or (fun e2 => ?_) fun e2 => ?_⟩
    · have hst : i ∈ ar ∨ 10 ≤ ar.length := .inr (by have e2 : decide ((10 : Int) ≤ ((ar.map fun n => V.int (n : Nat)).length : Nat)) = true := e2; have := of_decide_eq_true e2; rw [List.length_map] at this; omega)
      {
        have ES : arW S m n ar i t o c ps = ps ++ [o] ++ [("..." : Str)] ++ [c] := by
          unfold arW
          rw [if_pos hst]
        refine ⟨_, rfl, a.f, dx1, _, rfl, ef1, fm_no _ _ _ _ _ (by decide +kernel) (by decide +kernel) (by decide +kernel) (by decide +kernel) (by decide +kernel), a, sa.s, m, _, ar, "...", rfl, F1.F, lp1, by rw [l3]; decide, fun H2 k2 F2' => ?_⟩
        have F2 := F1.step L k2 F2'
        obtain ⟨dx2, ef2⟩ := F2.F.f
        refine ⟨_, rfl, a.f, dx2, _, rfl, ef2, fm_no _ _ _ _ _ (by decide +kernel) (by decide +kernel) (by decide +kernel) (by decide +kernel) (by decide +kernel), _, rfl, a, sa.s, m, _, ar, c, rfl, F2.F, by rw [List.length_append, List.length_singleton]; omega, by omega, fun H3 k3 F3 => ?_⟩
        exact q H3 ((k1.trans k2).trans k3) (by rw [ES]; exact F3) }
    have hst : ¬ (i ∈ ar ∨ 10 ≤ ar.length) := by
      rintro (h | h)
      · exact of_decide_eq_false e h
      · have e2 : decide ((10 : Int) ≤ ((ar.map fun n => V.int (n : Nat)).length : Nat)) = false := e2
        have := of_decide_eq_false e2
        rw [List.length_map] at this
        omega
    have hn1 : 1 ≤ n := by omega
    have ES : arW S m n ar i t o c ps = heldW m (wr S m n (ar ++ [i])) "" (rowsT t) (ps ++ [o]) ++ [c] := by
      unfold arW
      rw [if_neg hst]
    obtain ⟨nfp, nfr⟩ := F1.F.np
    have npr := F1.F.pr
    refine ⟨_, rfl, a.f, A.Form, dx1, _, .ref a.r, rfl, ef1, L.c_Form.cl, L.n_Form_around, fm_around _ _ _ _ _, .inl ⟨rfl, _, SqL.of F1.F.r⟩, _, rfl, r, A.Ref, dr, _, .int (i : Nat), rfl, hr1, L.c_Ref.cl, L.n_Ref_number, lk_hit, a.r, _, _, rfl, rfl, F1.F.r, Nat.lt_of_le_of_lt (m := 11) (by rw [List.length_map]; omega) (by decide), ?_⟩
    have k2 : Fk a H1 (upd H1 a.r (.lst (ar.map (fun n => V.int (n : Nat)) ++ [.int (i : Nat)]))) := fun b u e _ _ n3 => by rw [upd_ne n3]; exact e
    have F2 : FS P w A (upd H1 a.r (.lst (ar.map (fun n => V.int (n : Nat)) ++ [.int (i : Nat)]))) a sa S m (ps ++ [o]) (ar ++ [i]) := F1.step L k2 ⟨⟨dx1, by rw [upd_ne nfr]; exact ef1⟩, by rw [upd_ne npr]; exact F1.F.p, by rw [upd_same, List.map_append]; rfl, npr⟩
    have vk2 := k2.vk L F1
    have hR2 := vk2.v _ _ hR1
    obtain ⟨dx2, ef2⟩ := F2.F.f
    obtain ⟨dxs, hs0⟩ := F2.sm.s_
    obtain ⟨xx, mm, hX, hM, hth⟩ := F2.sm.get hi
    refine ⟨_, rfl, _, rfl, a.f, A.Form, dx2, _, .ref sa.s, rfl, ef2, L.c_Form.cl, L.n_Form_store, fm_store _ _ _ _ _, sa.s, dxs, _, rfl, hs0, st_no _ _ _ _ (by decide +kernel) (by decide +kernel) (by decide +kernel) (by decide +kernel), _, rfl, sa, S, r, xx, i, rfl, F2.sm, hR2, hX, ?_⟩
    refine ⟨a, sa, S, m, ps ++ [o], ar ++ [i], xx, mm, t, rfl, F2, hth, hC, F2.wf.2 i t hi, hlen, by rw [List.length_append, List.length_singleton]; omega, hn1, by rw [List.length_append, szP_snoc, List.length_singleton]; omega, by rw [szP_snoc]; omega, fun H3 k3 F3' => ?_⟩
    have F3 := F2.step L k3 F3'
    obtain ⟨dx3, ef3⟩ := F3.F.f
    have hlast : ((ar ++ [i]).map fun n => V.int (n : Nat))[((ar ++ [i]).map fun n => V.int (n : Nat)).length - 1]? = some (.int (i : Nat)) := by
      rw [List.map_append]
      simp
    refine ⟨_, rfl, a.f, A.Form, dx3, _, .ref a.r, rfl, ef3, L.c_Form.cl, L.n_Form_around, fm_around _ _ _ _ _, .inl ⟨rfl, _, SqL.of F3.F.r⟩, a.r, _, _, rfl, rfl, F3.F.r, hlast, ?_⟩
    have k4 : Fk a H3 (upd H3 a.r (.lst ((ar ++ [i]).map fun n => V.int (n : Nat)).dropLast)) := fun b u e _ _ n3 => by rw [upd_ne n3]; exact e
    have F4 : FS P w A (upd H3 a.r (.lst ((ar ++ [i]).map fun n => V.int (n : Nat)).dropLast)) a sa S m (heldW m (wr S m n (ar ++ [i])) "" (rowsT t) (ps ++ [o])) ar := F3.step L k4 ⟨⟨dx3, by rw [upd_ne nfr]; exact ef3⟩, by rw [upd_ne npr]; exact F3.F.p, by rw [upd_same, List.map_append, List.map_singleton, List.dropLast_concat], npr⟩
    obtain ⟨dx4, ef4⟩ := F4.F.f
    have hfew : (heldW m (wr S m n (ar ++ [i])) "" (rowsT t) (ps ++ [o])).length < 1000000 := by
      obtain ⟨b1, b2⟩ := held_few (ar := ar ++ [i]) F3.wf F3.pl hn1 (rowsT t) "" (ps ++ [o]) (rows_ok (F2.wf.2 i t hi)) (by decide +kernel) (fun _ => by rw [List.length_append, szP_snoc, List.length_singleton]; omega) (by rw [List.length_append, szP_snoc, List.length_singleton]; omega) (by rw [szP_snoc]; omega)
      have : cW n ≤ 2100 * 11 := by unfold cW; omega
      omega
    refine ⟨_, rfl, a.f, dx4, _, rfl, ef4, fm_no _ _ _ _ _ (by decide +kernel) (by decide +kernel) (by decide +kernel) (by decide +kernel) (by decide +kernel), _, rfl, a, sa.s, m, _, ar, c, rfl, F4.F, hfew, by omega, fun H5 k5 F5 => ?_⟩
    exact q H5 ((((k1.trans k2).trans k3).trans k4).trans k5) (by rw [ES]; exact F5)
theorem ok_write_step (L : Lib P K mg A) {n : Nat} (G_write_around : FnOk P w K mg base CX0 (3 * n + 5) L.write_around.f L.write_around.fd ["form", "ref", "opening", "closing"] (spAr P w A n)) : FnOk P w K mg base CX0 (3 * (n + 1) + 3) L.write.f L.write.fd ["form", "value"] (spWr P w A (n + 1)) := by
  have G_Form_add : FnOk P w K mg base CX0 1 L.Form_add.f L.Form_add.fd ["self", "text"] (spFAdd A) := ok_Form_add L
  have G_Store_at : FnOk P w K mg base CX0 1 L.Store_at.f L.Store_at.fd ["self", "ref"] (spAt P w A) := ok_Store_at L
  have G_plain_form : FnOk P w K mg base CX0 2 L.plain_form.f L.plain_form.fd ["form", "value", "thing"] (spPlain P w A) := ok_plain_form L
  refine L.write.F.ok sc_write (fun vs H Q E h => ?_) (fun cdv A' outer s H vs Q E hr h => ?_)
  · obtain ⟨a, sa, S, m, ps, ar, v, d, rfl, _⟩ := h
    rfl
  · obtain ⟨a, sa, S, m, ps, ar, v, d, rfl, hF, hv, ok, har, hn, hc, hz, q⟩ := h
    refine ⟨_, (pss_cons (ps_set (i := 2) sc_write.nd rfl (.inl rfl) (pe_ifExp (pt_val (pe_callB call_isi (by rfl) L.z_isinstance (by decide +kernel) (pa_cons (pv 1) (pa_cons (pe_gc (v := .ref A.Ref) (by rfl) ⟨_, L.c_Ref.g, rfl⟩) pa_nil)))) (pe_meth (pe_fld (pv 0) rfl) L.c_Store.cl L.Store_at.m G_Store_at (hr.mono (by omega)) L.Store_at.b .nil pass0 (pa_cons (pv 1) pa_nil)) pe_non))
      (pss_one (ps_if (pt_val (pe_callB call_isi (by rfl) L.z_isinstance (by decide +kernel) (pa_cons (pv 2) (pa_cons (pe_gc (v := .ref A.Parts) (by rfl) ⟨_, L.c_Parts.g, rfl⟩) pa_nil))))
        (pss_one (ps_expr (pe_call G_write_around (hr.mono (by omega)) (by rfl) L.write_around.g L.write_around.F.kp L.write_around.b .nil pass0 (pa_cons (pv 0) (pa_cons (pv 1) (pa_cons pe_str (pa_cons pe_str pa_nil)))))))
        (pss_one (ps_if (pt_val (pe_callB call_isi (by rfl) L.z_isinstance (by decide +kernel) (pa_cons (pv 2) (pa_cons (pe_gc (v := .ref A.Table) (by rfl) ⟨_, L.c_Table.g, rfl⟩) pa_nil))))
        (pss_one (ps_expr (pe_call G_write_around (hr.mono (by omega)) (by rfl) L.write_around.g L.write_around.F.kp L.write_around.b .nil pass0 (pa_cons (pv 0) (pa_cons (pv 1) (pa_cons pe_str (pa_cons pe_str pa_nil)))))))
        (pss_one (ps_expr (pe_meth (pv 0) L.c_Form.cl L.Form_add.m G_Form_add (hr.mono (by omega)) L.Form_add.b .nil pass0 (pa_cons (pe_call G_plain_form (hr.mono (by omega)) (by rfl) L.plain_form.g L.plain_form.F.kp L.plain_form.b .nil pass0 (pa_cons (pv 0) (pa_cons (pv 1) (pa_cons (pv 2) pa_nil)))) pa_nil))))))))), ?_⟩
    obtain ⟨dx, ef⟩ := hF.F.f
    obtain ⟨dxs, hs0⟩ := hF.sm.s_
    have hm := hF.hm
    have hpl := hF.pl d ok
    have hz1 := hpl.1
    have hz2 := hpl.2
    have noA : ∀ k, (formF sa.s a.p a.r m k).lookup ("add" : Str) = none := fun k => fm_no _ _ _ _ _ (by decide +kernel) (by decide +kernel) (by decide +kernel) (by decide +kernel) (by decide +kernel)
    cases d with
    | obj k =>
      obtain ⟨t, ht⟩ : ∃ t, S.things[k]? = some t := ⟨_, List.getElem?_eq_getElem ok⟩
      obtain ⟨x, mm, hX, hM, hth⟩ := hF.sm.get ht
      obtain ⟨b, db, rfl, hb⟩ := id hv
      have hot : OptTh P w A H (.ref x) (thO S (.obj k)) := by
        show OptTh P w A H (.ref x) S.things[k]?
        rw [ht]
        exact ⟨x, mm, rfl, hth⟩
      refine ⟨_, rfl, _, .ref A.Ref, _, .ref A.Ref, _, rfl, .own _, has_ty L hv, kit_R L _, _, rfl, ?_⟩
      refine iteT ⟨_, rfl, a.f, A.Form, dx, _, .ref sa.s, rfl, ef, L.c_Form.cl, L.n_Form_store, fm_store _ _ _ _ _, sa.s, dxs, _, rfl, hs0, st_no _ _ _ _ (by decide +kernel) (by decide +kernel) (by decide +kernel) (by decide +kernel), _, rfl, sa, S, b, x, k, rfl, hF.sm, hv, hX, ?_⟩
      have EW : isC t = true → wr S m (n + 1) ar (.obj k) ps = arW S m n ar k t (opn t) (cls' t) ps := fun h => by
        conv => lhs; unfold wr
        have : thO S (.obj k) = some t := ht
        rw [this]
        dsimp only
        rw [if_pos h]
        rfl
      refine ⟨_, rfl, _, .ref A.Parts, _, .ref A.Parts, _, rfl, .own _, th_ty L hth, kit_P L t, _, rfl, ite_or (fun e => ?_) fun e => ?_⟩
      · cases t with
        | parts ds =>
          have okt := hF.wf.2 k _ ht
          refine ⟨_, rfl, _, rfl, a, sa, S, m, ps, ar, b, k, .parts ds, "[", "]", rfl, hF, hv, ht, rfl, ?_, by decide +kernel, by decide +kernel, har, hc, hz, fun H' k' F => q H' k' (by rw [EW rfl]; exact F)⟩
          show (ds.map _).length ≤ 1000
          rw [List.length_map]
          exact okt.1
        | _ => cases e
      refine ⟨_, rfl, _, .ref A.Table, _, .ref A.Table, _, rfl, .own _, th_ty L hth, kit_T L t, _, rfl, ite_or (fun e2 => ?_) fun e2 => ?_⟩
      · cases t with
        | table es =>
          obtain ⟨ents, hT, hE, hnd, hle⟩ := id hth
          refine ⟨_, rfl, _, rfl, a, sa, S, m, ps, ar, b, k, .table es, "{", "}", rfl, hF, hv, ht, rfl, ?_, by decide +kernel, by decide +kernel, har, hc, hz, fun H' k' F => q H' k' (by rw [EW rfl]; exact F)⟩
          show (es.map _).length ≤ 1000
          rw [List.length_map]
          exact hle
        | _ => cases e2
      have hC : isC t = false := by unfold isC; rw [show tP t = false from e, show tT t = false from e2]; rfl
      have EP : wr S m (n + 1) ar (.obj k) ps = ps ++ [plainS S m (.obj k)] := by
        conv => lhs; unfold wr
        have : thO S (.obj k) = some t := ht
        rw [this]
        dsimp only
        rw [if_neg (by rw [hC]; exact Bool.false_ne_true)]
      refine ⟨_, rfl, a.f, dx, _, rfl, ef, noA _, _, rfl, _, rfl, _, rfl, a, sa, S, m, ps, ar, .ref b, .ref x, .obj k, rfl, hF.F, hF.sm, hv, hot, hF.wf, ok, a, sa.s, m, ps, ar, plainS S m (.obj k), rfl, hF.F, by omega, by omega, fun H' k' F => q H' k' (by rw [EP]; exact F)⟩
    | _ =>
      refine ⟨_, rfl, _, .ref A.Ref, _, .ref A.Ref, _, rfl, .own _, has_ty L hv, kit_R L _, _, rfl, iteF ?_⟩
      refine ⟨_, rfl, _, .ref A.Parts, _, .ref A.Parts, _, rfl, .own _, opt_ty (w := w) L (o := none) rfl, opt_P L _, _, rfl, iteF ?_⟩
      refine ⟨_, rfl, _, .ref A.Table, _, .ref A.Table, _, rfl, .own _, opt_ty (w := w) L (o := none) rfl, opt_T L _, _, rfl, iteF ?_⟩
      refine ⟨_, rfl, a.f, dx, _, rfl, ef, noA _, _, rfl, _, rfl, _, rfl, a, sa, S, m, ps, ar, v, .non, _, rfl, hF.F, hF.sm, hv, rfl, hF.wf, ok, a, sa.s, m, ps, ar, _, rfl, hF.F, by omega, by omega, fun H' k' F => q H' k' (by rw [wr_plain rfl (by omega)]; exact F)⟩
theorem ok_write (L : Lib P K mg A) : ∀ n : Nat, FnOk P w K mg base CX0 (3 * n + 3) L.write.f L.write.fd ["form", "value"] (spWr P w A n)
  | 0 => by
    refine L.write.F.ok sc_write (fun vs H Q E h => ?_) (fun cdv A' outer s H vs Q E hr h => ?_)
    · obtain ⟨a, sa, S, m, ps, ar, v, d, rfl, _⟩ := h
      rfl
    · obtain ⟨a, sa, S, m, ps, ar, v, d, rfl, hF, hv, ok, har, hn, hc, hz, q⟩ := h
      exact absurd hn (by decide)
  | n + 1 => ok_write_step L (ok_write_around L (ok_write_held L (ok_write L n)))
end
end My
namespace My
open PySem L2 SX XT XS XE XD XL
open C8 (pss_cut tCut cutS_slice pe_gc)
section
variable {P : Program} {w : World} {K : PySem.W.Frag} {mg : Str → Option Value} {base : Heap} {A : Ads}
theorem SM.fresh {H : Hp} {a : Sa} {S : St} (L : Lib P K mg A) (h : SM P w A H a S) {b : Addr} (n : H b = none) : ¬ a.own b := fun z => by
  obtain ⟨u, e, _⟩ := h.nv L z
  rw [n] at e
  cases e
theorem glueL_nil : ∀ r : List Str, StrLaws.glueL [] r = (r.map (·.cps.toList)).flatten
  | [] => rfl
  | p :: r => by
    show [] ++ (p.cps.toList ++ StrLaws.glueL [] r) = p.cps.toList ++ (r.map (·.cps.toList)).flatten
    rw [glueL_nil r, List.nil_append]
theorem join_list : ∀ ys : List Str, (Txt.join "" ys).cps.toList = (ys.map (·.cps.toList)).flatten
  | [] => by decide +kernel
  | p :: r => by
    show (Builtin.Str.glued "" (p :: r)).cps.toList = _
    rw [StrLaws.glued_list]
    show p.cps.toList ++ StrLaws.glueL (("" : Str)).cps.toList r = p.cps.toList ++ (r.map (·.cps.toList)).flatten
    rw [show (("" : Str)).cps.toList = [] by decide +kernel, glueL_nil]
theorem join_len (ys : List Str) : (Txt.join "" ys).length = szP ys := by
  show (Txt.join "" ys).cps.toList.length = _
  rw [join_list]
  unfold szP
  induction ys with
  | nil => rfl
  | cons p r ih =>
    rw [List.map_cons, List.flatten_cons, List.length_append, ih]
    rfl
/-- what write_value answers -/
def valS (S : St) (m : Nat) (d : Dv) : Str := headS m (Txt.join "" (wr S m 11 [] d []))
def spWV (P : Program) (w : World) (A : Ads) : Sp := fun vs H Q _ => ∃ (sa : Sa) (S : St) (m : Nat) (v : V) (d : Dv), vs = [.ref sa.s, v, .int (m : Nat)] ∧ SM P w A H sa S ∧ Has A H v d ∧ WfS S ∧ PlS S m ∧ okW S d ∧ m ≤ 1000 ∧ ∀ H', Same H H' → Q (.str (valS S m d)) H'
theorem ok_write_value (L : Lib P K mg A) : FnOk P w K mg base CX0 37 L.write_value.f L.write_value.fd ["store", "value", "most"] (spWV P w A) := by
  have G_Form_init : FnOk P w K mg base CX0 1 L.Form_init.f L.Form_init.fd ["self", "store", "most"] (spFI A) := ok_Form_init L
  have G_write : FnOk P w K mg base CX0 (3 * 11 + 3) L.write.f L.write.fd ["form", "value"] (spWr P w A 11) := ok_write L 11
  refine L.write_value.F.ok sc_write_value (fun vs H Q E h => ?_) (fun cdv A' outer s H vs Q E hr h => ?_)
  · obtain ⟨sa, S, m, v, d, rfl, _⟩ := h
    rfl
  · obtain ⟨sa, S, m, v, d, rfl, hS, hv, hw, hp, ok, hm, q⟩ := h
    refine ⟨_, (pss_cons (ps_set (i := 3) sc_write_value.nd rfl (.inl rfl) (pe_make L.Form_init.m G_Form_init (hr.mono (by omega)) (by rfl) L.c_Form.g L.Form_init.b .nil pass0 (pa_cons (pv 0) (pa_cons (pv 2) pa_nil))))
      (pss_cons (ps_expr (pe_call G_write (hr.mono (by omega)) (by rfl) L.write.g L.write.F.kp L.write.b .nil pass0 (pa_cons (pv 3) (pa_cons (pv 1) pa_nil))))
      (pss_one (ps_ret (pe_slice sl_str (pe_join pe_str (pe_fld (pv 3) rfl)) po_none (po_some (pe_op op_add (pv 2) pe_int))))))), ?_⟩
    refine ⟨_, rfl, _, rfl, ?_⟩
    intro x dx nx ndx ndxx
    have sm0 : Same H (upd (upd H dx (.own x)) x (.ins A.Form dx [])) := fun b u e => by
      rw [upd_ne (ne_of_none e nx), upd_ne (ne_of_none e ndx)]
      exact e
    refine ⟨x, dx, sa.s, m, rfl, upd_same, fun H1 a ea k1 hF np nr => ⟨rfl, ?_⟩⟩
    subst ea
    have s1 := Same.made nx ndx k1
    have np0 : H a.p = none := sm0.free np
    have nr0 : H a.r = none := sm0.free nr
    have F1 : FS P w A H1 a sa S m [] [] := ⟨hF, hS.same s1, hS.fresh L nx, hS.fresh L np0, hS.fresh L nr0, hw, hp, hm⟩
    refine ⟨_, rfl, _, rfl, a, sa, S, m, [], [], v, d, rfl, F1, hv.sv (Same.sv s1), ok, rfl, by decide, Nat.zero_le _, Nat.zero_le _, fun H2 k2 F2 => ?_⟩
    have s2 : Same H H2 := fun b u e => k2 b u (s1 b u e) (ne_of_none e nx) (ne_of_none e np0) (ne_of_none e nr0)
    obtain ⟨dx2, ef2⟩ := F2.f
    obtain ⟨b1, b2⟩ := wr_few hw hp 11 [] d [] ok ⟨Nat.zero_le _, Nat.zero_le _⟩ (Nat.zero_le _)
    have z0 : szP [] = 0 := rfl
    have hz : szP (wr S m 11 [] d []) ≤ 30000 := by
      rw [z0] at b1
      have : cW 11 = 23100 := rfl
      omega
    have lj : (Txt.join "" (wr S m 11 [] d [])).length ≤ 30000 := by
      rw [join_len]
      exact hz
    refine ⟨⟨_, rfl⟩, _, rfl, a.f, A.Form, dx2, _, .ref a.p, rfl, ef2, L.c_Form.cl, L.n_Form_pieces, fm_pieces _ _ _ _ _, "", a.p, wr S m 11 [] d [], rfl, rfl, .inl (SqL.of F2.p), ?_, ?_⟩
    · show szP (wr S m 11 [] d []) + _ * (("" : Str)).length ≤ _
      rw [show (("" : Str)).length = 0 by decide +kernel, Nat.mul_zero]
      omega
    refine ⟨_, rfl, _, _, rfl, rfl, _, rfl, _, rfl, Nat.le_trans lj (by decide), q H2 s2⟩
end
def spTO (P : Program) (w : World) (A : Ads) : Sp := fun vs H Q _ => ∃ (sa : Sa) (S : St) (m : Nat) (v : V) (d : Dv), vs = [.ref sa.s, v, .int (m : Nat)] ∧ SM P w A H sa S ∧ Has A H v d ∧ WfS S ∧ PlS S m ∧ okW S d ∧ m ≤ 1000 ∧ ∀ H', Same H H' → Q (.str (match d with | .str x => x | _ => valS S m d)) H'
section
variable {P : Program} {w : World} {K : PySem.W.Frag} {mg : Str → Option Value} {base : Heap} {A : Ads}
theorem ok_text_of (L : Lib P K mg A) : FnOk P w K mg base CX0 38 L.text_of.f L.text_of.fd ["store", "value", "most"] (spTO P w A) := by
  have G_write_value : FnOk P w K mg base CX0 37 L.write_value.f L.write_value.fd ["store", "value", "most"] (spWV P w A) := ok_write_value L
  refine L.text_of.F.ok sc_text_of (fun vs H Q E h => ?_) (fun cdv A' outer s H vs Q E hr h => ?_)
  · obtain ⟨sa, S, m, v, d, rfl, _⟩ := h
    rfl
  · obtain ⟨sa, S, m, v, d, rfl, hS, hv, hw, hp, ok, hm, q⟩ := h
    refine ⟨_, (pss_cons (ps_if (pt_val (pe_callB call_isi (by rfl) L.z_isinstance (by decide +kernel) (pa_cons (pv 1) (pa_cons (pe_bltn (v := .ty "str") (by rfl) L.z_str (by decide +kernel) rfl) pa_nil))))
        (pss_one (ps_ret (pv 1)))
        pss_nil)
      (pss_one (ps_ret (pe_call G_write_value (hr.mono (by omega)) (by rfl) L.write_value.g L.write_value.F.kp L.write_value.b .nil pass0 (pa_cons (pv 0) (pa_cons (pv 1) (pa_cons (pv 2) pa_nil))))))), ?_⟩
    refine ⟨_, rfl, _, .ty "str", _, .type "str", _, rfl, .ty _, has_ty L hv, kit_str L d, _, rfl, ite_or (fun e => ?_) fun e => ?_⟩
    · cases d with
      | str x => cases hv; exact ⟨_, rfl, q H fun _ _ e => e⟩
      | _ => cases e
    · refine ⟨_, rfl, _, rfl, _, rfl, sa, S, m, v, d, rfl, hS, hv, hw, hp, ok, hm, fun H' s' => ?_⟩
      cases d with
      | str x => cases e
      | _ => exact q H' s'
end
end My
namespace My
open PySem L2 SX XT XS XE XD XL
open C8 (pss_cut tCut cutS_slice pe_gc)
section
variable {P : Program} {w : World} {K : PySem.W.Frag} {mg : Str → Option Value} {base : Heap} {A : Ads}
def shortS (x : Str) : Str := if x.length ≤ 100 then x else cutS x none (some 100) ++ ("..." : Str)
def spSh : Sp := fun vs H Q _ => ∃ x : Str, vs = [.str x] ∧ x.length ≤ 100000 ∧ Q (.str (shortS x)) H
theorem ok_shortened (L : Lib P K mg A) : FnOk P w K mg base CX0 1 L.shortened.f L.shortened.fd ["text"] spSh := by
  refine L.shortened.F.ok sc_shortened (fun vs H Q E h => ?_) (fun cdv A' outer s H vs Q E hr h => ?_)
  · obtain ⟨x, rfl, _⟩ := h
    rfl
  · obtain ⟨x, rfl, hx, q⟩ := h
    refine ⟨_, (pss_one (ps_ret (pe_ifExp (pt_cmpR op_le (pe_callB call_len_str (by rfl) L.z_len PySem.boot_len (pa_cons (pv 0) pa_nil)) (pe_glob (v := .int 100) (by rfl) L.v_MOST_SHOWN.choose_spec ⟨_, rfl⟩) (nomark _)) (pv 0) (pe_op op_add_str (pe_slice sl_str (pv 0) po_none (po_some (pe_glob (v := .int 100) (by rfl) L.v_MOST_SHOWN.choose_spec ⟨_, rfl⟩))) pe_str)))), ?_⟩
    have hz : x.length ≤ sizeLine := Nat.le_trans hx (by decide)
    have l3 : (("..." : Str)).length = 3 := by decide +kernel
    have hc := cutS_length x none (some 100)
    refine ⟨_, rfl, x, rfl, hz, _, _, rfl, rfl, _, rfl, ite_or (fun e => ?_) fun e => ?_⟩
    · have h : x.length ≤ 100 := by
        have e : decide ((x.length : Int) ≤ 100) = true := e
        have := of_decide_eq_true e
        omega
      unfold shortS at q
      rw [if_pos h] at q
      exact ⟨_, rfl, q⟩
    · have h : ¬ x.length ≤ 100 := by
        have e : decide ((x.length : Int) ≤ 100) = false := e
        have := of_decide_eq_false e
        omega
      unfold shortS at q
      rw [if_neg h] at q
      exact ⟨_, rfl, _, rfl, x, rfl, hz, _, _, rfl, rfl, by rw [l3]; exact Nat.le_trans (m := 100003) (by omega) (by decide), q⟩
def spShow (P : Program) (w : World) (A : Ads) : Sp := fun vs H Q _ => ∃ (sa : Sa) (S : St) (v : V) (d : Dv), vs = [.ref sa.s, v] ∧ SM P w A H sa S ∧ Has A H v d ∧ WfS S ∧ PlS S 100 ∧ okW S d ∧ ∀ H', Same H H' → Q (.str (shortS (valS S 100 d))) H'
theorem ok_show (L : Lib P K mg A) : FnOk P w K mg base CX0 38 L.show_.f L.show_.fd ["store", "value"] (spShow P w A) := by
  have G_write_value : FnOk P w K mg base CX0 37 L.write_value.f L.write_value.fd ["store", "value", "most"] (spWV P w A) := ok_write_value L
  have G_shortened : FnOk P w K mg base CX0 1 L.shortened.f L.shortened.fd ["text"] spSh := ok_shortened L
  refine L.show_.F.ok sc_show_ (fun vs H Q E h => ?_) (fun cdv A' outer s H vs Q E hr h => ?_)
  · obtain ⟨sa, S, v, d, rfl, _⟩ := h
    rfl
  · obtain ⟨sa, S, v, d, rfl, hS, hv, hw, hp, ok, q⟩ := h
    refine ⟨_, (pss_one (ps_ret (pe_call G_shortened (hr.mono (by omega)) (by rfl) L.shortened.g L.shortened.F.kp L.shortened.b .nil pass0 (pa_cons (pe_call G_write_value (hr.mono (by omega)) (by rfl) L.write_value.g L.write_value.F.kp L.write_value.b .nil pass0 (pa_cons (pv 0) (pa_cons (pv 1) (pa_cons (pe_glob (v := .int 100) (by rfl) L.v_MOST_SHOWN.choose_spec ⟨_, rfl⟩) pa_nil)))) pa_nil)))), ?_⟩
    refine ⟨_, rfl, _, rfl, sa, S, 100, v, d, rfl, hS, hv, hw, hp, ok, by decide, fun H' s' => ⟨_, rfl, ?_, q H' s'⟩⟩
    obtain ⟨b1, b2⟩ := wr_few hw hp 11 [] d [] ok ⟨Nat.zero_le _, Nat.zero_le _⟩ (Nat.zero_le _)
    have z0 : szP [] = 0 := rfl
    have c11 : cW 11 = 23100 := rfl
    rw [z0, c11] at b1
    unfold valS
    refine Nat.le_trans (headS_len _ _) ?_
    rw [join_len]
    omega
end
end My
namespace My
open PySem L2 SX XT XS XE XD XL
/-! ### the whole text, and how far two texts agree -/
abbrev cl (x : Str) : List Nat := x.cps.toList
theorem cl_app (a b : Str) : cl (a ++ b) = cl a ++ cl b := by
  show (a.cps ++ b.cps).toList = _
  rw [Array.toList_append]
theorem cl_len (a : Str) : (cl a).length = a.length := Array.length_toList
theorem headS_list (m : Nat) (x : Str) : cl (headS m x) = (cl x).take (m + 1) := by
  unfold headS cutS
  have e1 := HT.sIx_nat x.length x.length (m + 1)
  rw [HT.sIx_none, e1]
  show (((cl x).drop 0).take (min (m + 1) x.length - 0)) = _
  rw [List.drop_zero, Nat.sub_zero, ← cl_len x, ← List.take_take, List.take_length]
/-- the first k signs are the same -/
def Agr (k : Nat) (a b : List Nat) : Prop := a.take k = b.take k
theorem Agr.rfl' {k : Nat} {a : List Nat} : Agr k a a := rfl
theorem Agr.trans {k : Nat} {a b c : List Nat} (x : Agr k a b) (y : Agr k b c) : Agr k a c := Eq.trans x y
theorem Agr.symm {k : Nat} {a b : List Nat} (x : Agr k a b) : Agr k b a := Eq.symm x
theorem Agr.app {k : Nat} {a b c d : List Nat} (x : Agr k a b) (y : a.length < k → Agr (k - a.length) c d) : Agr k (a ++ c) (b ++ d) := by
  unfold Agr at *
  by_cases h : a.length < k
  · have hb : b = a := by
      rw [List.take_of_length_le (Nat.le_of_lt h)] at x
      have : b.length < k := by
        have h2 := congrArg List.length x
        rw [List.length_take] at h2
        omega
      rw [List.take_of_length_le (Nat.le_of_lt this)] at x
      exact x.symm
    subst hb
    rw [List.take_append, List.take_append, y h]
  · have ha : k ≤ a.length := by omega
    have hb : k ≤ b.length := by
      have h2 := congrArg List.length x
      rw [List.length_take, List.length_take] at h2
      omega
    rw [List.take_append_of_le_length ha, List.take_append_of_le_length hb, x]
theorem Agr.mono {k k' : Nat} {a b : List Nat} (x : Agr k a b) (h : k' ≤ k) : Agr k' a b := by
  unfold Agr at *
  have := congrArg (List.take k') x
  rw [List.take_take, List.take_take, Nat.min_eq_left h] at this
  exact this
/-- a flatMap of signs that are told by one sign or more -/
theorem flat_take {f : Nat → List Nat} (hf : ∀ c, 1 ≤ (f c).length) : ∀ (l : List Nat) (k : Nat), Agr k ((l.take k).flatMap f) (l.flatMap f)
  | [], k => by rw [List.take_nil]; rfl
  | c :: r, 0 => by unfold Agr; rw [List.take_zero, List.take_zero]
  | c :: r, k + 1 => by
    rw [List.take_succ_cons, List.flatMap_cons, List.flatMap_cons]
    refine Agr.app Agr.rfl' fun _ => ?_
    exact (flat_take hf r k).mono (by have := hf c; omega)
theorem esc_len (c : Nat) : 1 ≤ (XQ.escC c).length := by
  unfold XQ.escC
  split
  · decide
  · split
    · decide
    · split
      · decide
      · exact Nat.le_refl _
/-- a plain value told whole -/
def plainF (S : St) : Dv → List Nat
  | .non => cl "null"
  | .bl b => cl (if b then "true" else "false")
  | .int i => cl (Str.ofString (toString i))
  | .str x => 34 :: ((cl x).flatMap XQ.escC ++ [34])
  | .bi _ => cl "<function>"
  | .obj n => match S.things[n]? with
    | some (.inst o _) => cl "<" ++ cl (nameOf S o) ++ cl ">"
    | some (.kin nm _ _) => cl "<class " ++ cl nm ++ cl ">"
    | _ => cl "<function>"
theorem plain_agree (S : St) (m : Nat) (d : Dv) : Agr (m + 1) (cl (plainS S m d)) (plainF S d) := by
  have nm : ∀ (a x : Str), Agr (m + 1) (cl (a ++ headS m x ++ (">" : Str))) (cl a ++ cl x ++ cl ">") := fun a x => by
    rw [cl_app, cl_app, headS_list]
    by_cases h : (cl x).length ≤ m + 1
    · rw [List.take_of_length_le h]; rfl
    · refine Agr.app (Agr.app Agr.rfl' fun _ => ?_) fun h2 => ?_
      · unfold Agr
        rw [List.take_take, Nat.min_eq_left (by omega)]
      · rw [List.length_append, List.length_take] at h2
        omega
  cases d with
  | str x =>
    show Agr (m + 1) (cl (XQ.qText (headS m x))) (34 :: ((cl x).flatMap XQ.escC ++ [34]))
    rw [show cl (XQ.qText (headS m x)) = _ from XQ.qText_list _, show (headS m x).cps.toList = _ from headS_list m x]
    show Agr (m + 1) ([34] ++ (((cl x).take (m + 1)).flatMap XQ.escC ++ [34])) ([34] ++ ((cl x).flatMap XQ.escC ++ [34]))
    refine Agr.app Agr.rfl' fun _ => Agr.app ((flat_take esc_len _ _).mono (by simp)) fun _ => Agr.rfl'
  | obj n =>
    unfold plainS plainF
    cases h : S.things[n]? with
    | none => simp only [h]; rfl
    | some t =>
      cases t with
      | inst o ns => simp only [h]; exact nm _ _
      | kin nm' par ms => simp only [h]; exact nm _ _
      | _ => simp only [h]; rfl
  | _ => rfl
end My
namespace My
open PySem L2 SX XT XS XE XD XL
def jn (ps : List Str) : List Nat := (ps.map cl).flatten
theorem jn_snoc (ps : List Str) (t : Str) : jn (ps ++ [t]) = jn ps ++ cl t := by
  unfold jn
  rw [List.map_append, List.flatten_append, List.map_singleton, List.flatten_singleton]
theorem jn_len (ps : List Str) : (jn ps).length = szP ps := by
  rw [← join_len, ← cl_len, show cl (Txt.join "" ps) = _ from join_list ps]
  rfl
def tailF (f : Dv → List Nat) : List Dv → List Nat
  | [] => []
  | d :: r => cl ": " ++ f d ++ tailF f r
def rowF (f : Dv → List Nat) : List Dv → List Nat
  | [] => []
  | d :: r => f d ++ tailF f r
def heldF (f : Dv → List Nat) : Str → List (List Dv) → List Nat
  | _, [] => []
  | g, r :: rs => cl g ++ rowF f r ++ heldF f ", " rs
/-- the whole text of a value -/
def fullW (S : St) : Nat → List Nat → Dv → List Nat
  | 0, _, _ => []
  | n + 1, ar, d => match thO S d with
    | some t => if isC t = true then cl (opn t) ++ (if numD d ∈ ar ∨ 10 ≤ ar.length then cl "..." else heldF (fullW S n (ar ++ [numD d])) "" (rowsT t)) ++ cl (cls' t) else plainF S d
    | none => plainF S d
theorem Agr.add {k : Nat} {a b c : List Nat} (x : Agr k a b) : Agr k (a ++ c) (b ++ c) := x.app fun _ => rfl
theorem Agr.full {k : Nat} {a c : List Nat} (h : k ≤ a.length) : Agr k a (a ++ c) := by
  unfold Agr
  rw [List.take_append_of_le_length h]
section
variable {m : Nat} {w : Dv → List Str → List Str} {f : Dv → List Nat}
theorem tail_agree (h : ∀ d ps, Agr (m + 1) (jn (w d ps)) (jn ps ++ f d)) : ∀ (r : List Dv) (ps : List Str), Agr (m + 1) (jn (tailW w r ps)) (jn ps ++ tailF f r)
  | [], ps => by
    show Agr _ (jn ps) (jn ps ++ [])
    rw [List.append_nil]; rfl
  | d :: r, ps => by
    refine (tail_agree h r (w d (ps ++ [(": " : Str)]))).trans ?_
    show Agr _ _ (jn ps ++ (cl ": " ++ f d ++ tailF f r))
    have := (h d (ps ++ [(": " : Str)])).add (c := tailF f r)
    rw [jn_snoc] at this
    simpa [List.append_assoc] using this
theorem row_agree (h : ∀ d ps, Agr (m + 1) (jn (w d ps)) (jn ps ++ f d)) : ∀ (r : List Dv) (ps : List Str), Agr (m + 1) (jn (rowW w r ps)) (jn ps ++ rowF f r)
  | [], ps => by
    show Agr _ (jn ps) (jn ps ++ [])
    rw [List.append_nil]; rfl
  | d :: r, ps => by
    refine (tail_agree h r (w d ps)).trans ?_
    show Agr _ _ (jn ps ++ (f d ++ tailF f r))
    have := (h d ps).add (c := tailF f r)
    simpa [List.append_assoc] using this
theorem held_agree (h : ∀ d ps, Agr (m + 1) (jn (w d ps)) (jn ps ++ f d)) : ∀ (rs : List (List Dv)) (g : Str) (ps : List Str), Agr (m + 1) (jn (heldW m w g rs ps)) (jn ps ++ heldF f g rs)
  | [], g, ps => by
    show Agr _ (jn ps) (jn ps ++ [])
    rw [List.append_nil]; rfl
  | r :: rs, g, ps => by
    by_cases he : m < szP ps
    · rw [heldW_stop he]
      exact Agr.full (by rw [jn_len]; omega)
    · rw [heldW_go he]
      refine (held_agree h rs ", " (rowW w r (ps ++ [g]))).trans ?_
      show Agr _ _ (jn ps ++ (cl g ++ rowF f r ++ heldF f ", " rs))
      have := (row_agree h r (ps ++ [g])).add (c := heldF f ", " rs)
      rw [jn_snoc] at this
      simpa [List.append_assoc] using this
end
theorem wr_agree (S : St) (m : Nat) : ∀ (n : Nat) (ar : List Nat) (d : Dv) (ps : List Str), Agr (m + 1) (jn (wr S m n ar d ps)) (jn ps ++ fullW S n ar d) := by
  intro n
  induction n with
  | zero =>
    intro ar d ps
    show Agr _ (jn ps) (jn ps ++ [])
    rw [List.append_nil]; rfl
  | succ n ih =>
    intro ar d ps
    have plain : Agr (m + 1) (jn (ps ++ [plainS S m d])) (jn ps ++ plainF S d) := by
      rw [jn_snoc]
      exact Agr.rfl'.app fun _ => (plain_agree S m d).mono (by omega)
    unfold wr fullW
    cases ht : thO S d with
    | none => exact plain
    | some t =>
      dsimp only
      by_cases hC : isC t = true
      · rw [if_pos hC, if_pos hC]
        by_cases hs : numD d ∈ ar ∨ 10 ≤ ar.length
        · rw [if_pos hs, if_pos hs, jn_snoc, jn_snoc, jn_snoc]
          simp only [List.append_assoc]
          rfl
        · rw [if_neg hs, if_neg hs, jn_snoc]
          have := (held_agree (m := m) (fun d ps => ih (ar ++ [numD d]) d ps) (rowsT t) "" (ps ++ [opn t]))
          have := (held_agree (m := m) (w := wr S m n (ar ++ [numD d])) (f := fullW S n (ar ++ [numD d])) (fun d' ps' => ih (ar ++ [numD d]) d' ps') (rowsT t) "" (ps ++ [opn t])).add (c := cl (cls' t))
          rw [jn_snoc] at this
          simpa [List.append_assoc] using this
      · rw [if_neg hC, if_neg hC]
        exact plain
/-- write_value's answer is the head of the whole text -/
theorem valS_full (S : St) (m : Nat) (d : Dv) : cl (valS S m d) = (fullW S 11 [] d).take (m + 1) := by
  unfold valS
  rw [headS_list, show cl (Txt.join "" (wr S m 11 [] d [])) = jn (wr S m 11 [] d []) from join_list _]
  exact wr_agree S m 11 [] d []
end My
namespace My
open PySem L2 SX XT XS XE XD XL
open C8 (pss_cut tCut cutS_slice pe_gc)
section
variable {P : Program} {w : World} {K : PySem.W.Frag} {mg : Str → Option Value} {base : Heap} {A : Ads}
theorem esc_all : ∀ l : List Nat, (l.flatMap XQ.escC).length ≤ 2 * l.length := by
  intro l
  induction l with
  | nil => exact Nat.le_refl _
  | cons a r ih =>
    rw [List.flatMap_cons, List.length_append, List.length_cons]
    have : (XQ.escC a).length ≤ 2 := by
      unfold XQ.escC
      split
      · exact Nat.le_refl _
      · split
        · exact Nat.le_refl _
        · split
          · exact Nat.le_refl _
          · exact Nat.le_succ _
    omega
def spLQ : Sp := fun vs H Q _ => ∃ x : Str, vs = [.str x] ∧ x.length ≤ 1000 ∧ ∀ H' (z : Str), Same H H' → cl z = 34 :: ((cl x).flatMap XQ.escC ++ [34]) → Q (.str z) H'
theorem ok_law_quoted (L : Lib P K mg A) : FnOk P w K mg base CX0 1 L.law_quoted.f L.law_quoted.fd ["text"] spLQ := by
  refine L.law_quoted.F.ok sc_law_quoted (fun vs H Q E h => ?_) (fun cdv A' outer s H vs Q E hr h => ?_)
  · obtain ⟨x, rfl, _⟩ := h
    rfl
  · obtain ⟨x, rfl, hx, q⟩ := h
    have nd := sc_law_quoted.nd
    refine ⟨_, (pss_cons (ps_set (i := 1) sc_law_quoted.nd rfl (.inl rfl) pe_str)
      (pss_cons (ps_for PassesOwn.never rfl (pi_range1 (by rfl) L.z_range (pa_cons (pe_callB call_len_str (by rfl) L.z_len PySem.boot_len (pa_cons (pv 0) pa_nil)) pa_nil)) (pg_name (i := 2) sc_law_quoted.nd rfl (.inl rfl))
        (pss_cons (ps_set (i := 3) sc_law_quoted.nd rfl (.inl rfl) (pe_ix ix_str (pv 0) (pv 2) (fun _ _ => rfl)))
      (pss_one (ps_if (pt_cmpR op_eq (pv 3) pe_str (nomark _))
        (pss_one (ps_set (i := 1) sc_law_quoted.nd rfl (.inl rfl) (pe_op op_add_str (pv 1) pe_str)))
        (pss_one (ps_if (pt_cmpR op_in_seq (pv 3) (pe_tup (pa_cons pe_str (pa_cons pe_str pa_nil))) (by rfl))
        (pss_one (ps_set (i := 1) sc_law_quoted.nd rfl (.inl rfl) (pe_op op_add_str (pe_op op_add_str (pv 1) pe_str) (pv 3))))
        (pss_one (ps_set (i := 1) sc_law_quoted.nd rfl (.inl rfl) (pe_op op_add_str (pv 1) (pv 3))))))))))
      (pss_one (ps_ret (pe_op op_add_str (pv 1) pe_str))))), ?_⟩
    have hz : x.length ≤ sizeLine := Nat.le_trans hx (by decide)
    refine ⟨_, rfl, x, rfl, hz, _, rfl, by omega, by omega, for_range (n := x.length) (fun i σ H' => ∃ (y2 y3 : Option V) (z : Str), σ = [some (.str x), some (.str z), y2, y3] ∧ Same H H' ∧ cl z = 34 :: ((cl x).take i).flatMap XQ.escC) ⟨none, none, "\"", rfl, fun _ _ e => e, by rw [List.take_zero]; decide +kernel⟩ ?_ ?_⟩
    · rintro i σ H1 hi ⟨y2, y3, z, rfl, s1, hcz⟩
      rw [Int.zero_add]
      have hi2 : i < (cl x).length := by rw [cl_len]; exact hi
      obtain ⟨c, hc⟩ : ∃ c, (cl x)[i]? = some c := ⟨_, List.getElem?_eq_getElem hi2⟩
      have hzl : z.length ≤ 2 * 1000 + 1 := by
        have fl := esc_all
        have h1 := congrArg List.length hcz
        rw [cl_len, List.length_cons] at h1
        have h2 := fl ((cl x).take i)
        rw [List.length_take] at h2
        omega
      have hb : ∀ n : Nat, n ≤ 100000 → n ≤ sizeLine := fun n h => by rw [sizeLine_eq]; omega
      have step : ∀ t : Str, cl t = XQ.escC c → cl (z ++ t) = 34 :: ((cl x).take (i + 1)).flatMap XQ.escC := fun t ht => by
        rw [cl_app, hcz, ht, List.take_add_one, hc, List.flatMap_append]
        simp
      have sg : ∀ (k : Nat) (y : Str), y = ⟨#[k]⟩ → ((V.str ⟨#[c]⟩ = V.str y) ↔ c = k) := fun k y hy => by
        rw [hy]
        constructor
        · intro h
          cases h
          rfl
        · intro h
          rw [h]
      refine ⟨_, rfl, _, rfl, x, _, c, rfl, rfl, hz, atI_nat hc, ?_⟩
      refine ⟨_, rfl, rfl, _, rfl, ite_or (fun e => ?_) fun e => ?_⟩
      · have e := (sg 10 "\n" (by decide +kernel)).mp (of_decide_eq_true e)
        subst e
        exact ⟨_, rfl, _, _, rfl, rfl, hb _ (by rw [show (("\\n" : Str)).length = 2 by decide +kernel]; omega), _, _, _, rfl, s1, step _ (by decide +kernel)⟩
      have n10 : c ≠ 10 := fun h => of_decide_eq_false e ((sg 10 "\n" (by decide +kernel)).mpr h)
      refine ⟨_, rfl, hb 2 (by decide), fun T nT => ?_⟩
      have s2 := s1.trans (same_upd (o := .tup [.str "\"", .str "\\"]) nT)
      refine ⟨T, _, rfl, .inr (SqT.of upd_same), rfl, rfl, _, rfl, ?_⟩
      have inb : inV (.str ⟨#[c]⟩) [.str "\"", .str "\\"] = decide (c = 34 ∨ c = 92) := by
        have q1 : ("\"" : Str) = ⟨#[34]⟩ := by decide +kernel
        have q2 : ("\\" : Str) = ⟨#[92]⟩ := by decide +kernel
        have ce : ∀ k : Nat, ((⟨#[k]⟩ : Str) == ⟨#[c]⟩) = decide (c = k) := fun k => by
          by_cases h : c = k
          · subst h
            rw [decide_eq_true rfl]
            exact beq_self_eq_true _
          · rw [decide_eq_false h]
            exact beq_eq_false_iff_ne.mpr fun z => h (by injection z with z; injection z with z; injection z with z; exact z.symm)
        show ((("\"" : Str) == ⟨#[c]⟩) || ((("\\" : Str) == ⟨#[c]⟩) || false)) = _
        rw [q1, q2, ce, ce, Bool.or_false]
        simp
      show if inV (.str ⟨#[c]⟩) [.str "\"", .str "\\"] = true then _ else _
      rw [inb]
      refine ite_or (fun e => ?_) fun e => ?_
      · have e := of_decide_eq_true e
        have l1 : (("\\" : Str)).length = 1 := by decide +kernel
        refine ⟨_, rfl, _, _, rfl, rfl, hb _ (by rw [l1]; omega), _, rfl, _, _, rfl, rfl, hb _ (by rw [Str.length_append, l1]; show z.length + 1 + 1 ≤ _; omega), some (.int (i : Nat)), some (.str ⟨#[c]⟩), z ++ (("\\" : Str) ++ ⟨#[c]⟩), ?_, s2, step _ ?_⟩
        · have : z ++ ("\\" : Str) ++ (⟨#[c]⟩ : Str) = z ++ (("\\" : Str) ++ ⟨#[c]⟩) := Str.append_assoc _ _ _
          rw [this]; rfl
        · rw [cl_app, show cl ("\\" : Str) = [92] by decide +kernel]
          show [92, c] = _
          unfold XQ.escC
          rcases e with rfl | rfl <;> rfl
      · have e := of_decide_eq_false e
        refine ⟨_, rfl, _, rfl, _, _, rfl, rfl, hb _ (by show z.length + 1 ≤ _; omega), _, _, _, rfl, s2, step _ ?_⟩
        show [c] = _
        unfold XQ.escC
        rw [if_neg fun h => e (.inr h), if_neg fun h => e (.inl h), if_neg n10]
    · rintro σ H1 ⟨y2, y3, z, rfl, s1, hcz⟩
      rw [← cl_len x, List.take_length] at hcz
      have h1 := congrArg List.length hcz
      rw [cl_len, List.length_cons] at h1
      have h2 := esc_all (cl x)
      rw [cl_len] at h2
      refine ⟨_, rfl, _, _, rfl, rfl, ?_, q H1 _ s1 ?_⟩
      · rw [show (("\"" : Str)).length = 1 by decide +kernel, sizeLine_eq]; omega
      · rw [cl_app, hcz]
        rfl
end
end My
namespace My
open PySem L2 SX XT XS XE XD XL
open C8 (pss_cut tCut cutS_slice pe_gc)
section
variable {P : Program} {w : World} {K : PySem.W.Frag} {mg : Str → Option Value} {base : Heap} {A : Ads}
def ErrO (S : St) : Prop := ∀ (n : Nat) o ns, S.things[n]? = some (.inst o ns) → nameOf S o = "Error"
def spLP (P : Program) (w : World) (A : Ads) : Sp := fun vs H Q _ => ∃ (sa : Sa) (S : St) (v : V) (d : Dv), vs = [.ref sa.s, v] ∧ SM P w A H sa S ∧ Has A H v d ∧ WfS S ∧ okW S d ∧ ErrO S ∧ ∀ H' (z : Str), Same H H' → cl z = plainF S d → Q (.str z) H'
theorem ok_law_plain (L : Lib P K mg A) : FnOk P w K mg base CX0 2 L.law_plain.f L.law_plain.fd ["store", "value"] (spLP P w A) := by
  have G_law_quoted : FnOk P w K mg base CX0 1 L.law_quoted.f L.law_quoted.fd ["text"] spLQ := ok_law_quoted L
  refine L.law_plain.F.ok sc_law_plain (fun vs H Q E h => ?_) (fun cdv A' outer s H vs Q E hr h => ?_)
  · obtain ⟨sa, S, v, d, rfl, _⟩ := h
    rfl
  · obtain ⟨sa, S, v, d, rfl, hS, hv, hw, ok, he, q⟩ := h
    obtain ⟨dsx, hs0⟩ := hS.s_
    refine ⟨_, (pss_cons (ps_if (pt_cmpR op_isN (pv 1) pe_non (nomark _))
        (pss_one (ps_ret pe_str))
        pss_nil)
      (pss_cons (ps_if (pt_val (pe_callB call_isi (by rfl) L.z_isinstance (by decide +kernel) (pa_cons (pv 1) (pa_cons (pe_bltn (v := .ty "bool") (by rfl) L.z_bool (by decide +kernel) rfl) pa_nil))))
        (pss_one (ps_ret (pe_ix ix_tup (pe_tup (pa_cons pe_str (pa_cons pe_str pa_nil))) (pe_callTy call_int1 (by rfl) L.z_int (by decide +kernel) (pa_cons (pv 1) pa_nil)) (fun _ _ => rfl))))
        pss_nil)
      (pss_cons (ps_if (pt_val (pe_callB call_isi (by rfl) L.z_isinstance (by decide +kernel) (pa_cons (pv 1) (pa_cons (pe_bltn (v := .ty "int") (by rfl) L.z_int (by decide +kernel) rfl) pa_nil))))
        (pss_one (ps_ret (pe_callTy call_str_int (by rfl) L.z_str (by decide +kernel) (pa_cons (pv 1) pa_nil))))
        pss_nil)
      (pss_cons (ps_if (pt_val (pe_callB call_isi (by rfl) L.z_isinstance (by decide +kernel) (pa_cons (pv 1) (pa_cons (pe_bltn (v := .ty "str") (by rfl) L.z_str (by decide +kernel) rfl) pa_nil))))
        (pss_one (ps_ret (pe_call G_law_quoted (hr.mono (by omega)) (by rfl) L.law_quoted.g L.law_quoted.F.kp L.law_quoted.b .nil pass0 (pa_cons (pv 1) pa_nil))))
        pss_nil)
      (pss_cons (ps_if (pt_val (pe_callB call_isi (by rfl) L.z_isinstance (by decide +kernel) (pa_cons (pv 1) (pa_cons (pe_gc (v := .ref A.Builtin) (by rfl) ⟨_, L.c_Builtin.g, rfl⟩) pa_nil))))
        (pss_one (ps_ret pe_str))
        pss_nil)
      (pss_cons (ps_set (i := 2) sc_law_plain.nd rfl (.inl rfl) (pe_ix ix_list (pe_fld (pv 0) rfl) (pe_fld (pv 1) rfl) (fun _ _ => rfl)))
      (pss_cons (ps_if (pt_val (pe_callB call_isi (by rfl) L.z_isinstance (by decide +kernel) (pa_cons (pv 2) (pa_cons (pe_gc (v := .ref A.Kin) (by rfl) ⟨_, L.c_Kin.g, rfl⟩) pa_nil))))
        (pss_one (ps_ret (pe_op op_add_str (pe_op op_add_str pe_str (pe_fld (pv 2) rfl)) pe_str)))
        pss_nil)
      (pss_cons (ps_if (pt_val (pe_callB call_isi (by rfl) L.z_isinstance (by decide +kernel) (pa_cons (pv 2) (pa_cons (pe_gc (v := .ref A.Instance) (by rfl) ⟨_, L.c_Instance.g, rfl⟩) pa_nil))))
        (pss_one (ps_ret pe_str))
        pss_nil)
      (pss_one (ps_ret pe_str)))))))))), ?_⟩
    refine ⟨_, rfl, rfl, _, rfl, ite_or (fun e => ?_) fun e0 => ?_⟩
    · cases d with
      | non => exact q H _ (fun _ _ e => e) rfl
      | bl b => cases hv; cases e
      | int b => cases hv; cases e
      | str b => cases hv; cases e
      | obj n => obtain ⟨_, _, rfl, _⟩ := hv; cases e
      | bi n => obtain ⟨_, _, rfl, _⟩ := hv; cases e
    refine ⟨_, rfl, _, .ty "bool", _, .type "bool", _, rfl, .ty _, has_ty L hv, kit_bool L d, _, rfl, ite_or (fun e => ?_) fun e1 => ?_⟩
    · cases d with
      | bl b =>
        cases hv
        refine ⟨by show 2 ≤ sizeLine; decide, fun T nT => ⟨_, rfl, .inr ⟨b, rfl, ?_⟩⟩⟩
        cases b
        · exact ⟨T, _, _, _, rfl, rfl, SqT.of upd_same, atI_nat (j := 0) rfl, q _ _ (same_upd nT) rfl⟩
        · exact ⟨T, _, _, _, rfl, rfl, SqT.of upd_same, atI_nat (j := 1) rfl, q _ _ (same_upd nT) rfl⟩
      | _ => cases e
    refine ⟨_, rfl, _, .ty "int", _, .type "int", _, rfl, .ty _, has_ty L hv, kit_int L d, _, rfl, ite_or (fun e => ?_) fun e2 => ?_⟩
    · cases d with
      | int b =>
        cases hv
        exact ⟨_, rfl, b, rfl, ok, q H _ (fun _ _ e => e) rfl⟩
      | bl b => cases e1
      | _ => cases e
    refine ⟨_, rfl, _, .ty "str", _, .type "str", _, rfl, .ty _, has_ty L hv, kit_str L d, _, rfl, ite_or (fun e => ?_) fun e3 => ?_⟩
    · cases d with
      | str x =>
        cases hv
        exact ⟨_, rfl, x, rfl, ok, fun H' z s' hz => q H' z s' hz⟩
      | _ => cases e
    refine ⟨_, rfl, _, .ref A.Builtin, _, .ref A.Builtin, _, rfl, .own _, has_ty L hv, kit_B L d, _, rfl, ite_or (fun e => ?_) fun e4 => ?_⟩
    · cases d with
      | bi n => exact q H _ (fun _ _ e => e) rfl
      | _ => cases e
    cases d with
    | obj n =>
      obtain ⟨t, ht⟩ : ∃ t, S.things[n]? = some t := ⟨_, List.getElem?_eq_getElem ok⟩
      obtain ⟨x, mm, hX, hM, hth⟩ := hS.get ht
      obtain ⟨b, db, rfl, hb⟩ := id hv
      refine ⟨_, rfl, sa.s, A.Store, dsx, _, _, rfl, hs0, L.c_Store.cl, L.n_Store_things, st_things _ _ _ _, _, rfl, b, A.Ref, db, _, _, rfl, hb, L.c_Ref.cl, L.n_Ref_number, lk_hit, sa.t, _, _, .ref x, rfl, rfl, SqL.of hS.t_, atI_nat (by rw [List.getElem?_map, hX]; rfl), ?_⟩
      refine ⟨_, rfl, _, .ref A.Kin, _, .ref A.Kin, _, rfl, .own _, th_ty L hth, kit_K L t, _, rfl, ite_or (fun e => ?_) fun e5 => ?_⟩
      · cases t with
        | kin nm par ms =>
          obtain ⟨dxi, vo, kvs, hx1, _⟩ := id hth
          have hnm : nm.length ≤ 1000 := hw.2 n _ ht
          have hz : ∀ n : Nat, n ≤ 100000 → n ≤ sizeLine := fun n h => by rw [sizeLine_eq]; omega
          have l1 : (("<class " : Str)).length = 7 := by decide +kernel
          have l2 : ((">" : Str)).length = 1 := by decide +kernel
          refine ⟨_, rfl, x, A.Kin, dxi, _, .str nm, rfl, hx1, L.c_Kin.cl, L.n_Kin_name, lk_hit, _, _, rfl, rfl, hz _ (by rw [l1]; omega), _, _, rfl, rfl, hz _ (by rw [Str.length_append, l1, l2]; omega), q H _ (fun _ _ e => e) ?_⟩
          rw [cl_app, cl_app]
          unfold plainF
          simp only [ht]
        | _ => cases e
      refine ⟨_, rfl, _, .ref A.Instance, _, .ref A.Instance, _, rfl, .own _, th_ty L hth, kit_I L t, _, rfl, ite_or (fun e => ?_) fun e6 => ?_⟩
      · cases t with
        | inst o ns =>
          refine q H _ (fun _ _ e => e) ?_
          unfold plainF
          simp only [ht]
          rw [he n o ns ht]
          decide +kernel
        | _ => cases e
      · refine q H _ (fun _ _ e => e) ?_
        unfold plainF
        cases t with
        | kin nm par ms => cases e5
        | inst o ns => cases e6
        | _ => simp only [ht]
    | non => cases hv; cases e0
    | bl b => cases e1
    | int b => cases e2
    | str b => cases e3
    | bi b => cases e4
end
end My
namespace My
open PySem L2 SX XT XS XE XD XL
open C8 (pss_cut tCut cutS_slice pe_gc)
/-! ### entries -/
def valE (es : List (Dv × Dv)) (k : Dv) : Option Dv := (es.find? fun p => decide (p.1 = k)).map (·.2)
def putE (es : List (Dv × Dv)) (k v : Dv) : List (Dv × Dv) := if (valE es k).isSome = true then es.map (fun p => if p.1 = k then (p.1, v) else p) else es ++ [(k, v)]
theorem Ents.len {A : Ads} {H : Hp} : ∀ {es : List Ent} {ps : List (Dv × Dv)}, Ents A H es ps → es.length = ps.length
  | [], [], _ => rfl
  | _ :: _, _ :: _, h => congrArg (· + 1) (Ents.len h.2)
  | [], _ :: _, h => h.elim
  | _ :: _, [], h => h.elim
theorem Ents.val {A : Ads} {H : Hp} {k : Dv} (hk : keyD k = true) : ∀ {es : List Ent} {ps : List (Dv × Dv)}, Ents A H es ps → (valT es (toV k)).isSome = (valE ps k).isSome
  | [], [], _ => rfl
  | e :: es, p :: ps, h => by
    have ih := Ents.val hk h.2
    unfold valT valE at ih ⊢
    rw [List.find?_cons, List.find?_cons]
    have : decide (e.1 = toV k) = decide (p.1 = k) := by
      rw [decide_eq_decide, h.1.2.1]
      exact ⟨fun z => toV_inj h.1.1 hk z, fun z => by rw [z]⟩
    rw [this]
    by_cases c : p.1 = k
    · rw [decide_eq_true c]; rfl
    · rw [decide_eq_false c]; exact ih
  | [], _ :: _, h => h.elim
  | _ :: _, [], h => h.elim
theorem Ents.app {A : Ads} {H : Hp} : ∀ {es fs : List Ent} {ps qs : List (Dv × Dv)}, Ents A H es ps → Ents A H fs qs → Ents A H (es ++ fs) (ps ++ qs)
  | [], _, [], _, _, g => g
  | _ :: _, _, _ :: _, _, h, g => ⟨h.1, Ents.app h.2 g⟩
  | [], _, _ :: _, _, h, _ => h.elim
  | _ :: _, _, [], _, h, _ => h.elim
theorem Ents.put {A : Ads} {H : Hp} {k v : Dv} {b q : Addr} {vv : V} (hk : keyD k = true) (hq : H q = some (.tup [toV k, vv])) (hv : Has A H vv v) {es : List Ent} {ps : List (Dv × Dv)} (h : Ents A H es ps) : Ents A H (putT es (toV k) b (.ref q)) (putE ps k v) := by
  unfold putT putE
  rw [h.val hk]
  split
  · have : ∀ {es : List Ent} {ps : List (Dv × Dv)}, Ents A H es ps → Ents A H (es.map fun e => if e.1 = toV k then (e.1, e.2.1, .ref q) else e) (ps.map fun p => if p.1 = k then (p.1, v) else p) := by
      intro es
      induction es with
      | nil =>
        intro ps h
        cases ps with
        | nil => trivial
        | cons p ps => exact h.elim
      | cons e es ih =>
        intro ps h
        cases ps with
        | nil => exact h.elim
        | cons p ps =>
          obtain ⟨⟨k1, k2, q1, v1, k3, k4, k5⟩, r⟩ := h
          refine ⟨?_, ih r⟩
          by_cases c : p.1 = k
          · have c2 : e.1 = toV k := by rw [k2, c]
            simp only [c2, c, if_true]
            exact ⟨by rw [← c]; exact k1, trivial, q, vv, rfl, hq, hv⟩
          · have c2 : ¬ e.1 = toV k := fun z => c (toV_inj k1 hk (k2.symm.trans z))
            simp only [c2, c, if_false]
            exact ⟨k1, k2, q1, v1, k3, k4, k5⟩
    exact this h
  · exact h.app ⟨⟨hk, rfl, q, vv, rfl, hq, hv⟩, trivial⟩
theorem valE_some {es : List (Dv × Dv)} {k : Dv} : (valE es k).isSome = true ↔ k ∈ es.map Prod.fst := by
  unfold valE
  rw [Option.isSome_map, List.find?_isSome]
  constructor
  · rintro ⟨p, hp, e⟩
    exact List.mem_map.mpr ⟨p, hp, of_decide_eq_true e⟩
  · intro h
    obtain ⟨p, hp, e⟩ := List.mem_map.mp h
    exact ⟨p, hp, decide_eq_true e⟩
theorem putE_keys {es : List (Dv × Dv)} {k v : Dv} : (putE es k v).map Prod.fst = if k ∈ es.map Prod.fst then es.map Prod.fst else es.map Prod.fst ++ [k] := by
  unfold putE
  by_cases h : (valE es k).isSome = true
  · rw [if_pos h, if_pos (valE_some.mp h), List.map_map]
    refine List.map_congr_left fun p _ => ?_
    show (if p.1 = k then (p.1, v) else p).1 = p.1
    split <;> rfl
  · rw [if_neg h, if_neg fun z => h (valE_some.mpr z), List.map_append]
    rfl
theorem putE_nd {es : List (Dv × Dv)} {k v : Dv} (h : (es.map Prod.fst).Nodup) : ((putE es k v).map Prod.fst).Nodup := by
  rw [putE_keys]
  split
  · exact h
  · rename_i c
    rw [List.nodup_append]
    refine ⟨h, by simp, fun x hx y hy z => ?_⟩
    rw [List.mem_singleton] at hy
    rw [z, hy] at hx
    exact c hx
theorem putE_len {es : List (Dv × Dv)} {k v : Dv} : (putE es k v).length ≤ es.length + 1 ∧ ((valE es k).isSome = true → (putE es k v).length = es.length) := by
  unfold putE
  split
  · simp
  · rename_i c
    exact ⟨by simp, fun z => absurd z c⟩
theorem putE_new {es : List (Dv × Dv)} {k v : Dv} (h : k ∉ es.map Prod.fst) : putE es k v = es ++ [(k, v)] := by
  unfold putE
  rw [if_neg fun z => h (valE_some.mp z)]
/-! ### how a store goes on -/
structure Ev (a a' : Sa) (H H' : Hp) : Prop where
  fr : Fr a H H'
  s : a'.s = a.s
  gw : ∀ b, a'.own b → a.own b ∨ H b = none
theorem Ev.trans {a b c : Sa} {H H1 H2 : Hp} (x : Ev a b H H1) (y : Ev b c H1 H2) : Ev a c H H2 := by
  refine ⟨fun d u e n => y.fr _ _ (x.fr _ _ e n) fun z => ?_, y.s.trans x.s, fun d z => ?_⟩
  · rcases x.gw d z with q | q
    · exact n q
    · rw [q] at e; cases e
  · rcases y.gw d z with q | q
    · exact x.gw d q
    · cases e : H d with
      | none => exact .inr rfl
      | some u =>
        by_cases o : a.own d
        · exact .inl o
        · rw [x.fr _ _ e o] at q; cases q
theorem Ev.same {a : Sa} {H H' : Hp} (s : Same H H') : Ev a a H H' := ⟨fun b u e _ => s b u e, rfl, fun _ z => .inl z⟩
theorem Ev.rfl' {a : Sa} {H : Hp} : Ev a a H H := Ev.same fun _ _ e => e
theorem Ev.nin {a a' : Sa} {H H' : Hp} (x : Ev a a' H H') {p : Addr} {u : HO} (e : H p = some u) (n : ¬ a.own p) : ¬ a'.own p := fun z => by
  rcases x.gw p z with q | q
  · exact n q
  · rw [q] at e; cases e

theorem op_mul_str {X : Cx} : OpR X (binaryOp .Mult) (fun x y H Q => ∃ z n, x = .str z ∧ y = .int n ∧ MulOk z n ∧ Q (.str (Txt.mul z n)) H) := by
  intro pins s σ H x y v u Q I rx ry h
  obtain ⟨z, n, rfl, rfl, hz, q⟩ := h
  obtain ⟨t, rfl⟩ := rx
  obtain ⟨t', rfl⟩ := ry
  exact SB.mul hz (fun t' tk => ⟨.str (Txt.mul z n), H, I.tok _, ⟨_, rfl⟩, q⟩)

section
variable {P : Program} {w : World} {K : PySem.W.Frag} {mg : Str → Option Value} {base : Heap} {A : Ads}
/-- a thing's part was changed -/
theorem SM.setK {H H' : Hp} {a : Sa} {S : St} {i : Nat} {x m : Addr} {d : Th} (h : SM P w A H a S) (hX : a.X[i]? = some x) (hM : a.M[i]? = some m) (kp : Keep m H H') (k : Vk A H H') (hd : ThAt P w A H' x m d) :
    SM P w A H' a { S with things := S.things.set i d } := by
  have mm := List.mem_of_getElem? hM
  have hm3 : m ≠ a.t ∧ m ≠ a.o ∧ m ≠ a.l := by
    have := h.nd
    simp only [List.nodup_cons, List.mem_cons, not_or] at this
    exact ⟨fun z => this.1.2.2 (z ▸ mm), fun z => this.2.1.2 (z ▸ mm), fun z => this.2.2.1 (z ▸ mm)⟩
  have hMn : a.M.Nodup := by
    have := h.nd
    simp only [List.nodup_cons] at this
    exact this.2.2.2
  obtain ⟨tm, xm, hmt⟩ := h.ms mm
  obtain ⟨um, hum, hni, _⟩ := hmt.m
  have nins : ∀ {b : Addr} {C dx : Addr} {fs : List (Str × V)}, H b = some (.ins C dx fs) → b ≠ m := fun e z => by
    rw [z, hum] at e
    exact hni _ _ _ (Option.some.inj e)
  obtain ⟨dx, e⟩ := h.s_
  refine ⟨⟨dx, kp _ _ e (nins e)⟩, kp _ _ h.t_ hm3.1.symm, kp _ _ h.o_ hm3.2.1.symm, kp _ _ h.l_ hm3.2.2.symm, by rw [List.length_set]; exact h.lx, by rw [List.length_set]; exact h.lm, ?_, h.nd, h.nx⟩
  intro j x' m' d' e1 e2 e3
  by_cases hij : i = j
  · subst hij
    rw [hX] at e1
    rw [hM] at e2
    cases e1
    cases e2
    have hl := (List.getElem?_eq_some_iff.mp e3).1
    rw [List.length_set] at hl
    rw [List.getElem?_set_self hl] at e3
    cases e3
    exact hd
  · rw [List.getElem?_set_ne hij] at e3
    have t := h.th j x' m' d' e1 e2 e3
    refine t.imp k (fun u' e => ?_) (fun u' e => ?_)
    · obtain ⟨dx', fs', ex⟩ := t.x
      exact kp _ _ e (nins ex)
    · have hne : m' ≠ m := fun z => by
        rw [z] at e2
        exact hij (nodup_get hMn hM e2)
      exact kp _ _ e hne
/-- of a part that no value is: values and tuples stay -/
theorem vk_part {H H' : Hp} {m : Addr} {u : HO} (hu : H m = some u) (n1 : ∀ C dx fs, u ≠ .ins C dx fs) (n2 : ∀ xs, u ≠ .tup xs) (k : Keep m H H') : Vk A H H' := ⟨fun v d h => by
  cases d with
  | obj n =>
    obtain ⟨b, dx, rfl, e⟩ := h
    exact ⟨b, dx, rfl, k _ _ e fun z => by rw [z, hu] at e; exact n1 _ _ _ (Option.some.inj e)⟩
  | bi n =>
    obtain ⟨b, dx, rfl, e⟩ := h
    exact ⟨b, dx, rfl, k _ _ e fun z => by rw [z, hu] at e; exact n1 _ _ _ (Option.some.inj e)⟩
  | _ => exact h, fun q xs e => k _ _ e fun z => by rw [z, hu] at e; exact n2 _ (Option.some.inj e)⟩
theorem ev_part {H H' : Hp} {a : Sa} {m : Addr} (hm : m ∈ a.M) (k : Keep m H H') : Ev a a H H' := ⟨fun b u e n => k _ _ e fun z => n (.inr (.inr (.inr (.inr (.inr (by rw [z]; exact hm)))))), rfl, fun _ z => .inl z⟩

theorem StL.ofK {H7 H : Hp} {a p : Addr} {ns : List Int} {x k : Int} (st7 : StL K H7 a p ns) (kk : Keep p H7 H) (hp : H p = some (.lst [.int x, .int k, .ref a])) (h0 : 0 ≤ k) : StL K H a p ns := by
  obtain ⟨x7, k7, h7, _, hs⟩ := st7
  exact ⟨x, k, hp, h0, sql_keep kk h7 hs⟩
/-- the law's draws and a store beside them -/
structure LI (P : Program) (w : World) (K : PySem.W.Frag) (A : Ads) (a p : Addr) (ns : List Int) (H7 H : Hp) (sa : Sa) (S : St) : Prop where
  st7 : StL K H7 a p ns
  k7 : Keep p H7 H
  st : StL K H a p ns
  sm : SM P w A H sa S
  fr : ∀ b, sa.own b → H7 b = none
variable {a p : Addr} {ns : List Int} {H7 H H' : Hp} {sa sa' : Sa} {S S' : St}
theorem LI.np (L : LI P w K A a p ns H7 H sa S) : ¬ sa.own p := fun z => by
  obtain ⟨x, k, h, _⟩ := L.st7
  rw [L.fr p z] at h
  cases h
theorem LI.hp (L : LI P w K A a p ns H7 H sa S) : ∃ xs, H p = some (.lst xs) := by
  obtain ⟨x, k, h, _⟩ := L.st
  exact ⟨_, h⟩
theorem LI.draw (L : LI P w K A a p ns H7 H sa S) (k : Keep p H H') (st : StL K H' a p ns) : LI P w K A a p ns H7 H' sa S := by
  obtain ⟨xs, hp⟩ := L.hp
  exact ⟨L.st7, L.k7.trans k, st, L.sm.keep k hp L.np, L.fr⟩
theorem LI.sv (L : LI P w K A a p ns H7 H sa S) (k : Keep p H H') : Sv H H' := by
  obtain ⟨xs, hp⟩ := L.hp
  exact Keep.sv k hp
theorem LI.same (L : LI P w K A a p ns H7 H sa S) (s : Same H H') : LI P w K A a p ns H7 H' sa S := L.draw (My.Same.keep s) (L.st.same s)
theorem LI.ev (L : LI P w K A a p ns H7 H sa S) (e : Ev sa sa' H H') (sm : SM P w A H' sa' S') : LI P w K A a p ns H7 H' sa' S' := by
  obtain ⟨x, k, hp, h0, _⟩ := L.st
  have kk : Keep p H7 H' := fun b u h n => e.fr _ _ (L.k7 _ _ h n) fun z => by rw [L.fr b z] at h; cases h
  refine ⟨L.st7, kk, L.st7.ofK kk (e.fr _ _ hp L.np) h0, sm, fun b z => ?_⟩
  rcases e.gw b z with q | q
  · exact L.fr b q
  · cases h : H7 b with
    | none => rfl
    | some u =>
      by_cases hb : b = p
      · rw [hb, hp] at q; cases q
      · rw [L.k7 _ _ h hb] at q; cases q

/-- what is neither the store's own nor the state stays -/
structure Od (p : Addr) (a b : Sa) (H H' : Hp) : Prop where
  fr : ∀ c u, H c = some u → ¬ a.own c → c ≠ p → H' c = some u
  s : b.s = a.s
  gw : ∀ c, b.own c → a.own c ∨ H c = none
theorem Od.trans {p : Addr} {a b c : Sa} {H H1 H2 : Hp} (x : Od p a b H H1) (y : Od p b c H1 H2) (np : ∃ u, H1 p = some u) : Od p a c H H2 := by
  refine ⟨fun d u e n q => y.fr _ _ (x.fr _ _ e n q) (fun z => ?_) q, y.s.trans x.s, fun d z => ?_⟩
  · rcases x.gw d z with q | q
    · exact n q
    · rw [q] at e; cases e
  · rcases y.gw d z with q | q
    · exact x.gw d q
    · cases e : H d with
      | none => exact .inr rfl
      | some u =>
        by_cases o : a.own d
        · exact .inl o
        · by_cases hp : d = p
          · obtain ⟨u, hu⟩ := np
            rw [hp, hu] at q; cases q
          · rw [x.fr _ _ e o hp] at q; cases q
theorem Od.keep {p : Addr} {a : Sa} {H H' : Hp} (k : Keep p H H') : Od p a a H H' := ⟨fun c u e _ n => k _ _ e n, rfl, fun _ z => .inl z⟩
theorem Od.ev {p : Addr} {a b : Sa} {H H' : Hp} (e : Ev a b H H') : Od p a b H H' := ⟨fun c u h n _ => e.fr _ _ h n, e.s, e.gw⟩
theorem Od.same {p : Addr} {a : Sa} {H H' : Hp} (s : Same H H') : Od p a a H H' := Od.keep (My.Same.keep s)
theorem Od.put {p D : Addr} {a b : Sa} {H H' : Hp} {o : HO} (x : Od p a b H H') (n : H D = none) : Od p a b H (upd H' D o) := ⟨fun c u e n1 n2 => by rw [upd_ne (ne_of_none e n)]; exact x.fr _ _ e n1 n2, x.s, x.gw⟩
theorem LI.h7 (L : LI P w K A a p ns H7 H sa S) {D : Addr} (n : H D = none) : H7 D = none := by
  cases h : H7 D with
  | none => rfl
  | some u =>
    by_cases hb : D = p
    · obtain ⟨xs, hp⟩ := L.hp
      rw [hb, hp] at n; cases n
    · rw [L.k7 _ _ h hb] at n; cases n
theorem LI.lst (L : LI P w K A a p ns H7 H sa S) {D : Addr} {xs ys : List V} (hD : H D = some (.lst xs)) (h7 : H7 D = none) (nd : ¬ sa.own D) (hp : D ≠ p) : LI P w K A a p ns H7 (upd H D (.lst ys)) sa S ∧ Sv H (upd H D (.lst ys)) := by
  have sv : Sv H (upd H D (.lst ys)) := fun b u e n => by
    rw [upd_ne fun z => by rw [z, hD] at e; exact n _ (Option.some.inj e).symm]
    exact e
  have kk : Keep p H7 (upd H D (.lst ys)) := fun b u e n => by rw [upd_ne (ne_of_none e h7)]; exact L.k7 _ _ e n
  obtain ⟨x, k, h1, h0, _⟩ := L.st
  exact ⟨⟨L.st7, kk, L.st7.ofK kk (by rw [upd_ne hp.symm]; exact h1) h0, L.sm.keep keep_upd hD nd, L.fr⟩, sv⟩

def szT : Th → Nat
  | .parts ds => ds.length
  | .table es => es.length
  | _ => 0
end
end My
namespace My
open PySem L2 SX XT XS XE XD XL
theorem int_text_pos (i : Int) : 1 ≤ (Str.ofString (toString i)).length := by
  rw [PySem.ofString_length]
  cases i with
  | ofNat n =>
    show 1 ≤ (Nat.repr n).length
    have : (Nat.repr n).toList = Nat.toDigits 10 n := by simp [Nat.repr]
    have h := Nat.length_toDigits_pos (b := 10) (n := n)
    rw [← String.length_toList, this]
    exact h
  | negSucc n =>
    show 1 ≤ ("-" ++ Nat.repr (n + 1)).length
    rw [String.length_append]
    have : ("-" : String).length = 1 := by decide +kernel
    omega
theorem nameOf_len {S : St} (hw : WfS S) {n : Nat} {o : Dv} {ns : List (Str × Dv)} (h : S.things[n]? = some (.inst o ns)) : (nameOf S o).length ≤ 1000 := by
  obtain ⟨k, nm, par, ms, rfl, hk⟩ := hw.2 n _ h
  have hnm : nm.length ≤ 1000 := hw.2 k _ hk
  unfold nameOf
  simp only [hk]
  exact hnm
theorem plainF_len {S : St} (hw : WfS S) {d : Dv} (ok : okW S d) : (plainF S d).length ≤ 2002 := by
  cases d with
  | non => show (cl "null").length ≤ 2002; decide +kernel
  | bl b =>
    cases b
    · show (cl "false").length ≤ 2002; decide +kernel
    · show (cl "true").length ≤ 2002; decide +kernel
  | int i =>
    show (cl (Str.ofString (toString i))).length ≤ 2002
    rw [cl_len]
    have := PyProof.Rows.int_text_len_1921 (i := i) ok
    omega
  | str x =>
    show (34 :: ((cl x).flatMap XQ.escC ++ [34])).length ≤ 2002
    have h := esc_all (cl x)
    rw [cl_len] at h
    have : x.length ≤ 1000 := ok
    rw [List.length_cons, List.length_append, List.length_singleton]
    omega
  | bi x => show (cl "<function>").length ≤ 2002; decide +kernel
  | obj n =>
    have l1 : (cl "<").length = 1 := by decide +kernel
    have l2 : (cl ">").length = 1 := by decide +kernel
    have l3 : (cl "<class ").length = 7 := by decide +kernel
    have l4 : (cl "<function>").length ≤ 2002 := by decide +kernel
    unfold plainF
    cases h : S.things[n]? with
    | none => simp only [h]; exact l4
    | some t =>
      cases t with
      | inst o ns =>
        simp only [h]
        have := nameOf_len hw h
        rw [List.length_append, List.length_append, l1, l2, cl_len]
        omega
      | kin nm par ms =>
        simp only [h]
        have : nm.length ≤ 1000 := hw.2 n _ h
        rw [List.length_append, List.length_append, l3, l2, cl_len]
        omega
      | _ => simp only [h]; exact l4
theorem pls {S : St} (hw : WfS S) (m : Nat) : PlS S m := by
  intro d ok
  unfold okPl
  cases d with
  | non => show 1 ≤ (("null" : Str)).length ∧ (("null" : Str)).length ≤ 2002; decide +kernel
  | bl b =>
    cases b
    · show 1 ≤ (("false" : Str)).length ∧ (("false" : Str)).length ≤ 2002; decide +kernel
    · show 1 ≤ (("true" : Str)).length ∧ (("true" : Str)).length ≤ 2002; decide +kernel
  | int i =>
    have h1 := PyProof.Rows.int_text_len_1921 (i := i) ok
    have h2 := int_text_pos i
    exact ⟨h2, by show (Str.ofString (toString i)).length ≤ 2002; omega⟩
  | str x =>
    show 1 ≤ (XQ.qText (headS m x)).length ∧ (XQ.qText (headS m x)).length ≤ 2002
    have e : (XQ.qText (headS m x)).length = (cl (XQ.qText (headS m x))).length := (cl_len _).symm
    rw [show cl (XQ.qText (headS m x)) = _ from XQ.qText_list _] at e
    have h := esc_all (headS m x).cps.toList
    have h2 : (headS m x).cps.toList.length = (headS m x).length := Array.length_toList
    have h3 := headS_len m x
    have : x.length ≤ 1000 := ok
    rw [List.length_cons, List.length_append, List.length_singleton] at e
    omega
  | bi x => show 1 ≤ (("<function>" : Str)).length ∧ (("<function>" : Str)).length ≤ 2002; decide +kernel
  | obj n =>
    have l1 : (("<" : Str)).length = 1 := by decide +kernel
    have l2 : ((">" : Str)).length = 1 := by decide +kernel
    have l3 : (("<class " : Str)).length = 7 := by decide +kernel
    have l4 : 1 ≤ (("<function>" : Str)).length ∧ (("<function>" : Str)).length ≤ 2002 := by decide +kernel
    unfold plainS
    cases h : S.things[n]? with
    | none => simp only [h]; exact l4
    | some t =>
      cases t with
      | inst o ns =>
        simp only [h]
        have h1 := nameOf_len hw h
        have h2 := headS_len m (nameOf S o)
        rw [Str.length_append, Str.length_append, l1, l2]
        omega
      | kin nm par ms =>
        simp only [h]
        have h1 : nm.length ≤ 1000 := hw.2 n _ h
        have h2 := headS_len m nm
        rw [Str.length_append, Str.length_append, l3, l2]
        omega
      | _ => simp only [h]; exact l4
theorem heldF_snoc (f : Dv → List Nat) (r : List Dv) : ∀ (rs : List (List Dv)) (g : Str), heldF f g (rs ++ [r]) = heldF f g rs ++ (cl (if rs.length = 0 then g else ", ") ++ rowF f r)
  | [], g => by
    show cl g ++ rowF f r ++ [] = [] ++ (cl g ++ rowF f r)
    rw [List.append_nil, List.nil_append]
  | x :: xs, g => by
    show cl g ++ rowF f x ++ heldF f ", " (xs ++ [r]) = cl g ++ rowF f x ++ heldF f ", " xs ++ (cl ", " ++ rowF f r)
    rw [heldF_snoc f r xs ", ", List.append_assoc (cl g ++ rowF f x)]
    congr 2
    split <;> rfl
theorem heldF_take {f : Dv → List Nat} {rs : List (List Dv)} {i : Nat} {r : List Dv} (h : rs[i]? = some r) : heldF f "" (rs.take (i + 1)) = heldF f "" (rs.take i) ++ (cl (if i = 0 then "" else ", ") ++ rowF f r) := by
  have hi := (List.getElem?_eq_some_iff.mp h).1
  rw [List.take_add_one, h]
  show heldF f "" (rs.take i ++ [r]) = _
  rw [heldF_snoc, List.length_take]
  by_cases h0 : i = 0
  · subst h0; rfl
  · rw [if_neg h0, if_neg (by omega)]
/-- the text of a nested value behind what was told -/
theorem agr_step {room : Int} {a b y c : List Nat} (h : Agr (room + 1).toNat a b) (g : Agr (room - a.length + 1).toNat y c) : Agr (room + 1).toNat (a ++ y) (b ++ c) := by
  refine h.app fun hl => ?_
  have : (room - a.length + 1).toNat = (room + 1).toNat - a.length := by omega
  rw [this] at g
  exact g
end My
namespace My
open PySem L2 SX XT XS XE XD XL
open C8 (pss_cut tCut cutS_slice pe_gc)
section
variable {P : Program} {w : World} {K : PySem.W.Frag} {mg : Str → Option Value} {base : Heap} {A : Ads}
def SmS (S : St) : Prop := ∀ (n : Nat) t, S.things[n]? = some t → (rowsT t).length ≤ 4
theorem inA_dec (ar : List Nat) (i : Nat) : inV (.int (i : Nat)) (ar.map fun n => V.int (n : Nat)) = decide (i ∈ ar) := by
  unfold inV
  rw [List.any_map, Bool.eq_iff_iff, List.any_eq_true, decide_eq_true_iff]
  constructor
  · rintro ⟨k, hk, e⟩
    have e : ((k : Int) == (i : Int)) = true := e
    have : k = i := by have := eq_of_beq e; omega
    rw [← this]; exact hk
  · intro h
    exact ⟨i, h, beq_self_eq_true ((i : Nat) : Int)⟩
/-- the law's own text, cut off behind the room: its first room+1 signs are those of the whole text -/
def spLF (P : Program) (w : World) (A : Ads) (n : Nat) : Sp := fun vs H Q _ => ∃ (sa : Sa) (S : St) (v : V) (d : Dv) (l : Addr) (ar : List Nat) (room : Int), vs = [.ref sa.s, v, .ref l, .int room] ∧ SM P w A H sa S ∧ Has A H v d ∧ WfS S ∧ SmS S ∧ okW S d ∧ ErrO S ∧ H l = some (.lst (ar.map fun k => V.int (k : Nat))) ∧ ar.length + n = 11 ∧ 1 ≤ n ∧ room ≤ 1000 ∧
  ∀ H' (z : Str), Same H H' → Agr (room + 1).toNat (cl z) (fullW S n ar d) → z.length ≤ 10000 * n → (room < 0 → z.length = 0) → Q (.str z) H'
theorem kit_isC (L : Lib P K mg A) (t : Th) : PySem.W.kitAny K (.ref (clsT A t)) [.ref A.Parts, .ref A.Table] = some (isC t) := by
  unfold PySem.W.kitAny isC
  rw [kit_P L t]
  cases tP t with
  | true => rfl
  | false =>
    unfold PySem.W.kitAny
    rw [kit_T L t]
    cases tT t <;> rfl
theorem ok_law_form_step (L : Lib P K mg A) {n : Nat} (G_law_form : FnOk P w K mg base CX0 (n + 3) L.law_form.f L.law_form.fd ["store", "value", "around", "room"] (spLF P w A n)) : FnOk P w K mg base CX0 (n + 1 + 3) L.law_form.f L.law_form.fd ["store", "value", "around", "room"] (spLF P w A (n + 1)) := by
  have G_law_plain : FnOk P w K mg base CX0 2 L.law_plain.f L.law_plain.fd ["store", "value"] (spLP P w A) := ok_law_plain L
  have G_Table_pairs : FnOk P w K mg base CX0 1 L.Table_pairs.f L.Table_pairs.fd ["self"] (spTPairs P w A) := ok_Table_pairs L
  refine L.law_form.F.ok sc_law_form (fun vs H Q E h => ?_) (fun cdv A' outer s H vs Q E hr h => ?_)
  · obtain ⟨sa, S, v, d, l, ar, room, rfl, _⟩ := h
    rfl
  · obtain ⟨sa, S, v, d, l, ar, room, rfl, hS, hv, hw, hsm, ok, he, hl, har, hn, hroom, q⟩ := h
    have nd := sc_law_form.nd
    obtain ⟨dsx, hs0⟩ := hS.s_
    have hz : ∀ n : Nat, n ≤ 1000000 → n ≤ sizeLine := fun n h => by rw [sizeLine_eq]; omega
    refine ⟨_, (pss_cons (ps_if (pt_cmpR op_lt (pv 3) pe_int (nomark _))
        (pss_one (ps_ret pe_str))
        pss_nil)
      (pss_cons (ps_if (PW.pt (pw_or (pt_not (pt_val (pe_callB call_isi (by rfl) L.z_isinstance (by decide +kernel) (pa_cons (pv 1) (pa_cons (pe_gc (v := .ref A.Ref) (by rfl) ⟨_, L.c_Ref.g, rfl⟩) pa_nil))))) (pw_or1 (pt_not (pt_val (pe_callB call_isiT (by rfl) L.z_isinstance (by decide +kernel) (pa_cons (pe_ix ix_list (pe_fld (pv 0) rfl) (pe_fld (pv 1) rfl) (fun _ _ => rfl)) (pa_cons (pe_tup (pa_cons (pe_gc (v := .ref A.Parts) (by rfl) ⟨_, L.c_Parts.g, rfl⟩) (pa_cons (pe_gc (v := .ref A.Table) (by rfl) ⟨_, L.c_Table.g, rfl⟩) pa_nil))) pa_nil))))))))
        (pss_one (ps_ret (pe_call G_law_plain (hr.mono (by omega)) (by rfl) L.law_plain.g L.law_plain.F.kp L.law_plain.b .nil pass0 (pa_cons (pv 0) (pa_cons (pv 1) pa_nil)))))
        pss_nil)
      (pss_cons (ps_set (i := 4) sc_law_form.nd rfl (.inl rfl) (pe_ix ix_list (pe_fld (pv 0) rfl) (pe_fld (pv 1) rfl) (fun _ _ => rfl)))
      (pss_cons (ps_set (i := 5) sc_law_form.nd rfl (.inl rfl) pe_str)
      (pss_cons (ps_if (pt_val (pe_callB call_isi (by rfl) L.z_isinstance (by decide +kernel) (pa_cons (pv 4) (pa_cons (pe_gc (v := .ref A.Table) (by rfl) ⟨_, L.c_Table.g, rfl⟩) pa_nil))))
        (pss_one (ps_set (i := 5) sc_law_form.nd rfl (.inl rfl) pe_str))
        pss_nil)
      (pss_cons (ps_if (PW.pt (pw_or (pt_cmpR op_in_seq (pe_fld (pv 1) rfl) (pv 2) (by rfl)) (pw_or1 (pt_cmpR op_ge (pe_callB call_len_seq (by rfl) L.z_len PySem.boot_len (pa_cons (pv 2) pa_nil)) pe_int (nomark _)))))
        (pss_one (ps_ret (pe_op op_add_str (pe_op op_add_str (pe_ix ix_str (pv 5) pe_int (fun _ _ => rfl)) pe_str) (pe_ix ix_str (pv 5) pe_int (fun _ _ => rfl)))))
        pss_nil)
      (pss_cons (ps_set (i := 6) sc_law_form.nd rfl (.inl rfl) (pe_op op_cat (pv 2) (pe_lst (pa_cons (pe_fld (pv 1) rfl) pa_nil))))
      (pss_cons (ps_set (i := 7) sc_law_form.nd rfl (.inl rfl) (pe_ix ix_str (pv 5) pe_int (fun _ _ => rfl)))
      (pss_cons (ps_if (pt_val (pe_callB call_isi (by rfl) L.z_isinstance (by decide +kernel) (pa_cons (pv 4) (pa_cons (pe_gc (v := .ref A.Parts) (by rfl) ⟨_, L.c_Parts.g, rfl⟩) pa_nil))))
        (pss_one (ps_for PassesOwn.never rfl (pi_range1 (by rfl) L.z_range (pa_cons (pe_callB call_len_seq (by rfl) L.z_len PySem.boot_len (pa_cons (pe_fld (pv 4) rfl) pa_nil)) pa_nil)) (pg_name (i := 8) sc_law_form.nd rfl (.inl rfl))
        (pss_cut (ps_if (pt_cmpR op_gt (pv 8) pe_int (nomark _))
        (pss_one (ps_set (i := 7) sc_law_form.nd rfl (.inl rfl) (pe_op op_add_str (pv 7) pe_str)))
        pss_nil)
      (pss_one (ps_set (i := 7) sc_law_form.nd rfl (.inl rfl) (pe_op op_add_str (pv 7) (pe_call G_law_form (hr.mono (by omega)) (by rfl) L.law_form.g L.law_form.F.kp L.law_form.b .nil pass0 (pa_cons (pv 0) (pa_cons (pe_ix ix_list (pe_fld (pv 4) rfl) (pv 8) (fun _ _ => rfl)) (pa_cons (pv 6) (pa_cons (pe_op op_sub (pv 3) (pe_callB call_len_str (by rfl) L.z_len PySem.boot_len (pa_cons (pv 7) pa_nil))) pa_nil)))))))))))
        (pss_cons (ps_set (i := 9) sc_law_form.nd rfl (.inl rfl) (pe_meth0 (pv 4) L.c_Table.cl L.Table_pairs.m G_Table_pairs (hr.mono (by omega)) L.Table_pairs.b .nil pass0))
      (pss_one (ps_for PassesOwn.never rfl (pi_range1 (by rfl) L.z_range (pa_cons (pe_callB call_len_seq (by rfl) L.z_len PySem.boot_len (pa_cons (pv 9) pa_nil)) pa_nil)) (pg_name (i := 8) sc_law_form.nd rfl (.inl rfl))
        (pss_cut (ps_if (pt_cmpR op_gt (pv 8) pe_int (nomark _))
        (pss_one (ps_set (i := 7) sc_law_form.nd rfl (.inl rfl) (pe_op op_add_str (pv 7) pe_str)))
        pss_nil)
      (pss_cons (ps_set (i := 7) sc_law_form.nd rfl (.inl rfl) (pe_op op_add_str (pe_op op_add_str (pv 7) (pe_call G_law_plain (hr.mono (by omega)) (by rfl) L.law_plain.g L.law_plain.F.kp L.law_plain.b .nil pass0 (pa_cons (pv 0) (pa_cons (pe_ix ix_tup (pe_ix ix_list (pv 9) (pv 8) (fun _ _ => rfl)) pe_int (fun _ _ => rfl)) pa_nil)))) pe_str))
      (pss_one (ps_set (i := 7) sc_law_form.nd rfl (.inl rfl) (pe_op op_add_str (pv 7) (pe_call G_law_form (hr.mono (by omega)) (by rfl) L.law_form.g L.law_form.F.kp L.law_form.b .nil pass0 (pa_cons (pv 0) (pa_cons (pe_ix ix_tup (pe_ix ix_list (pv 9) (pv 8) (fun _ _ => rfl)) pe_int (fun _ _ => rfl)) (pa_cons (pv 6) (pa_cons (pe_op op_sub (pv 3) (pe_callB call_len_str (by rfl) L.z_len PySem.boot_len (pa_cons (pv 7) pa_nil))) pa_nil))))))))))))))
      (pss_one (ps_ret (pe_op op_add_str (pv 7) (pe_ix ix_str (pv 5) pe_int (fun _ _ => rfl)))))))))))))), ?_⟩
    refine ⟨_, rfl, _, _, rfl, rfl, _, rfl, ite_or (fun e => ?_) fun e => ?_⟩
    · have e : room < 0 := of_decide_eq_true e
      refine q H "" (fun _ _ e => e) ?_ (Nat.zero_le _) fun _ => rfl
      have : (room + 1).toNat = 0 := by omega
      rw [this]
      unfold Agr
      rw [List.take_zero, List.take_zero]
    have hr0 : 0 ≤ room := by
      have := of_decide_eq_false e
      omega
    have neg : ¬ room < 0 := by omega
    have plainCase : (∀ t, thO S d = some t → isC t = false) → ∀ H1, Same H H1 → ∀ H' (z : Str), Same H1 H' → cl z = plainF S d → Q (.str z) H' := fun hc H1 s1 H' z s2 ez => by
      refine q H' z (s1.trans s2) ?_ ?_ fun h => absurd h neg
      · rw [ez]
        have : fullW S (n + 1) ar d = plainF S d := by
          unfold fullW
          cases ht : thO S d with
          | none => rfl
          | some t =>
            dsimp only
            rw [if_neg (by rw [hc t ht]; exact Bool.false_ne_true)]
        rw [this]
        rfl
      · rw [← cl_len, ez]
        have := plainF_len hw ok
        omega
    refine ⟨_, rfl, _, .ref A.Ref, _, .ref A.Ref, _, rfl, .own _, has_ty L hv, kit_R L d, _, rfl, ite_or (fun e1 => ?_) fun e1 => ?_⟩
    · refine iteT ⟨_, rfl, _, rfl, sa, S, v, d, rfl, hS, hv, hw, ok, he, plainCase (fun t ht => ?_) H fun _ _ e => e⟩
      cases d with
      | obj n => cases e1
      | _ => cases ht
    cases d with
    | obj i =>
      obtain ⟨t, ht⟩ : ∃ t, S.things[i]? = some t := ⟨_, List.getElem?_eq_getElem ok⟩
      obtain ⟨x, mm, hX, hM, hth⟩ := hS.get ht
      obtain ⟨b, db, rfl, hb⟩ := id hv
      refine ⟨_, rfl, sa.s, A.Store, dsx, _, _, rfl, hs0, L.c_Store.cl, L.n_Store_things, st_things _ _ _ _, _, rfl, b, A.Ref, db, _, _, rfl, hb, L.c_Ref.cl, L.n_Ref_number, lk_hit, sa.t, _, _, .ref x, rfl, rfl, SqL.of hS.t_, atI_nat (by rw [List.getElem?_map, hX]; rfl), ?_⟩
      refine ⟨by show 2 ≤ sizeLine; decide, fun T nT => ?_⟩
      have s1 := same_upd (o := .tup [.ref A.Parts, .ref A.Table]) nT
      refine ⟨.ref x, T, [.ref A.Parts, .ref A.Table], .ref (clsT A t), [.ref A.Parts, .ref A.Table], isC t, rfl, upd_same, .cons (.own _) (.cons (.own _) .nil), th_ty L (hth.imp (Sv.vk (Same.sv s1)) (fun u e => s1 _ _ e) fun u e => s1 _ _ e), kit_isC L t, _, rfl, ite_or (fun e2 => ?_) fun e2 => ?_⟩
      · have e2 : isC t = false := by cases h : isC t <;> simp [h] at e2 ⊢
        refine ⟨_, rfl, _, rfl, sa, S, .ref b, .obj i, rfl, hS.same s1, hv.sv (Same.sv s1), hw, ok, he, plainCase (fun t' ht' => ?_) _ s1⟩
        have ht' : S.things[i]? = some t' := ht'
        rw [ht] at ht'
        cases ht'
        exact e2
      have hC : isC t = true := by cases h : isC t <;> simp [h] at e2 ⊢
      have okt := hw.2 i t ht
      have hsmt := hsm i t ht
      generalize upd H T (.tup [.ref A.Parts, .ref A.Table]) = H1 at s1
      have hS1 := hS.same s1
      have hb1 := s1 _ _ hb
      have hs1 := s1 _ _ hs0
      have hl1 := s1 _ _ hl
      have hv1 := hv.sv (Same.sv s1)
      have hth1 : ThAt P w A H1 x mm t := hth.imp (Sv.vk (Same.sv s1)) (fun u e => s1 _ _ e) fun u e => s1 _ _ e
      refine ⟨_, rfl, sa.s, A.Store, dsx, _, _, rfl, hs1, L.c_Store.cl, L.n_Store_things, st_things _ _ _ _, _, rfl, b, A.Ref, db, _, _, rfl, hb1, L.c_Ref.cl, L.n_Ref_number, lk_hit, sa.t, _, _, .ref x, rfl, rfl, SqL.of hS1.t_, atI_nat (by rw [List.getElem?_map, hX]; rfl), ?_⟩
      have flat : (ar.map fun n => V.int (n : Nat)).all flatV = true := by simp [List.all_map, flatV]
      have FW : fullW S (n + 1) ar (.obj i) = cl (opn t) ++ (if i ∈ ar ∨ 10 ≤ ar.length then cl "..." else heldF (fullW S n (ar ++ [i])) "" (rowsT t)) ++ cl (cls' t) := by
        conv => lhs; unfold fullW
        have : thO S (.obj i) = some t := ht
        rw [this]
        dsimp only
        rw [if_pos hC]
        rfl
      refine ⟨_, rfl, _, .ref A.Table, _, .ref A.Table, _, rfl, .own _, th_ty L hth1, kit_T L t, _, rfl, ?_⟩
      cases t with
      | parts ds =>
        refine iteF ?_
        refine ⟨_, rfl, b, A.Ref, db, _, _, rfl, hb1, L.c_Ref.cl, L.n_Ref_number, lk_hit, _, rfl, l, _, rfl, .inl (SqL.of hl1), rfl, flat, _, rfl, ?_⟩
        show if inV (.int (i : Nat)) (ar.map fun n => V.int (n : Nat)) = true then _ else _
        rw [inA_dec]
        have stop : (i ∈ ar ∨ 10 ≤ ar.length) → Q (.str ((⟨#[91]⟩ : Str) ++ ("..." : Str) ++ (⟨#[93]⟩ : Str))) H1 := fun hst => by
          refine q H1 _ s1 ?_ ?_ fun h => absurd h neg
          · rw [FW, if_pos hst, cl_app, cl_app]
            rfl
          · have : (((⟨#[91]⟩ : Str) ++ ("..." : Str) ++ (⟨#[93]⟩ : Str))).length = 5 := by decide +kernel
            rw [this]
            omega
        have mz : (("[]" : Str)).length ≤ sizeLine := hz _ (by decide +kernel)
        have m0 : atI (("[]" : Str)).cps.toList 0 = some 91 := atI_nat (j := 0) (by decide +kernel)
        have m1 : atI (("[]" : Str)).cps.toList 1 = some 93 := atI_nat (j := 1) (by decide +kernel)
        refine ite_or (fun e3 => ?_) fun e3 => ?_
        · exact iteT ⟨_, rfl, "[]", 0, 91, rfl, rfl, mz, m0, _, _, rfl, rfl, hz _ (by decide +kernel), _, rfl, "[]", 1, 93, rfl, rfl, mz, m1, _, _, rfl, rfl, hz _ (by decide +kernel), stop (.inl (of_decide_eq_true e3))⟩
        refine ⟨_, rfl, l, _, rfl, .inl (SqL.of hl1), _, _, rfl, rfl, _, rfl, ite_or (fun e4 => ?_) fun e4 => ?_⟩
        · have h4 : 10 ≤ ar.length := by
            have e4 : decide ((10 : Int) ≤ ((ar.map fun n => V.int (n : Nat)).length : Nat)) = true := e4
            have := of_decide_eq_true e4
            rw [List.length_map] at this
            omega
          exact ⟨_, rfl, "[]", 0, 91, rfl, rfl, mz, m0, _, _, rfl, rfl, hz _ (by decide +kernel), _, rfl, "[]", 1, 93, rfl, rfl, mz, m1, _, _, rfl, rfl, hz _ (by decide +kernel), stop (.inr h4)⟩
        have hst : ¬ (i ∈ ar ∨ 10 ≤ ar.length) := by
          rintro (h | h)
          · exact of_decide_eq_false e3 h
          · have e4 : decide ((10 : Int) ≤ ((ar.map fun n => V.int (n : Nat)).length : Nat)) = false := e4
            have := of_decide_eq_false e4
            rw [List.length_map] at this
            omega
        have hn1 : 1 ≤ n := by omega
        rw [FW, if_neg hst] at q
        refine ⟨_, rfl, _, rfl, b, A.Ref, db, _, _, rfl, hb1, L.c_Ref.cl, L.n_Ref_number, lk_hit, ?_⟩
        refine ⟨by show 1 ≤ sizeLine; decide, fun U nU => ⟨l, U, _, _, rfl, rfl, same_upd nU _ _ hl1, upd_same, hz _ (by rw [List.length_map]; show ar.length + 1 ≤ _; omega), fun W nW => ?_⟩⟩
        have s2 : Same H1 (upd (upd H1 U (.lst [.int (i : Nat)])) W (.lst (ar.map (fun n => V.int (n : Nat)) ++ [.int (i : Nat)]))) := (same_upd nU).trans (same_upd nW)
        have hW : (upd (upd H1 U (.lst [.int (i : Nat)])) W (.lst (ar.map (fun n => V.int (n : Nat)) ++ [.int (i : Nat)]))) W = some (.lst ((ar ++ [i]).map fun n => V.int (n : Nat))) := by rw [upd_same, List.map_append]; rfl
        generalize upd (upd H1 U (.lst [.int (i : Nat)])) W (.lst (ar.map (fun n => V.int (n : Nat)) ++ [.int (i : Nat)])) = H2 at s2 hW
        have s02 := s1.trans s2
        have hth2 : ThAt P w A H2 x mm _ := hth1.imp (Sv.vk (Same.sv s2)) (fun u e => s2 _ _ e) fun u e => s2 _ _ e
        refine ⟨_, rfl, "[]", 0, 91, rfl, rfl, mz, m0, ?_⟩
        refine ⟨_, rfl, _, .ref A.Parts, _, .ref A.Parts, _, rfl, .own _, th_ty L hth2, kit_P L _, _, rfl, iteT ?_⟩
        have hl11 : (ar ++ [i]).length + n = 11 := by rw [List.length_append, List.length_singleton]; omega
        have ecl : ∀ z : Str, cl (z ++ (⟨#[93]⟩ : Str)) = cl z ++ cl (cls' (.parts ds)) := fun z => cl_app _ _
        have fin : ∀ (H' : Hp) (z : Str), Same H2 H' → Agr (room + 1).toNat (cl z) (cl (opn (.parts ds)) ++ heldF (fullW S n (ar ++ [i])) "" (rowsT (.parts ds))) → z.length ≤ 1001 + 10000 * n + 2008 * 4 → z.length + 1 ≤ sizeLine ∧ Q (.str (z ++ (⟨#[93]⟩ : Str))) H' := fun H' z s3 ag hlz => by
          refine ⟨hz _ (by omega), q H' _ (s02.trans s3) ?_ ?_ fun h => absurd h neg⟩
          · rw [ecl]
            exact ag.add
          · rw [Str.length_append]
            show z.length + 1 ≤ _
            omega
        obtain ⟨dxp, us, e5, e6, e7⟩ := id hth2
        have hul := e7.len
        have hd4 : ds.length ≤ 4 := by have : (rowsT (.parts ds)).length = ds.length := List.length_map _; omega
        refine ⟨_, rfl, x, A.Parts, dxp, _, .ref mm, rfl, e5, L.c_Parts.cl, L.n_Parts_held, lk_hit, mm, us, rfl, .inl (SqL.of e6), _, rfl, by omega, by omega, for_range (n := us.length) (fun j σ H' => ∃ (yk : Option V) (z : Str), σ = [some (.ref sa.s), some (.ref b), some (.ref l), some (.int room), some (.ref x), some (.str "[]"), some (.ref W), some (.str z), yk, none] ∧ Same H2 H' ∧ Agr (room + 1).toNat (cl z) (cl (opn (.parts ds)) ++ heldF (fullW S n (ar ++ [i])) "" ((rowsT (.parts ds)).take j)) ∧ z.length ≤ 1001 + 10000 * n + 2008 * j)
          ⟨none, _, rfl, fun _ _ e => e, by rw [List.take_zero]; exact Agr.rfl', by show 1 ≤ _; omega⟩ ?_ ?_⟩
        · rintro j σ H3 hj ⟨yk, z, rfl, s3, ag, hlz⟩
          rw [Int.zero_add]
          obtain ⟨d', hd'⟩ : ∃ d', ds[j]? = some d' := ⟨_, List.getElem?_eq_getElem (by omega)⟩
          obtain ⟨v', hv', hvd⟩ := e7.at hd'
          have hrow : (rowsT (.parts ds))[j]? = some [d'] := by show (ds.map _)[j]? = _; rw [List.getElem?_map, hd']; rfl
          have okd : okW S d' := okt.2 d' (List.mem_of_getElem? hd')
          let M : List (Option V) → Hp → Prop := fun σ' H' => ∃ z' : Str, σ' = [some (.ref sa.s), some (.ref b), some (.ref l), some (.int room), some (.ref x), some (.str "[]"), some (.ref W), some (.str z'), some (.int (j : Nat)), none] ∧ H' = H3 ∧ Agr (room + 1).toNat (cl z') (cl (opn (.parts ds)) ++ heldF (fullW S n (ar ++ [i])) "" ((rowsT (.parts ds)).take j) ++ cl (if j = 0 then "" else ", ")) ∧ z'.length ≤ z.length + 2
          refine ⟨M, ⟨_, rfl, _, _, rfl, rfl, _, rfl, ite_or (fun e => ?_) fun e => ?_⟩, ?_⟩
          · have e : (0 : Int) < (j : Nat) := of_decide_eq_true e
            have l2 : ((", " : Str)).length = 2 := by decide +kernel
            refine ⟨_, rfl, _, _, rfl, rfl, hz _ (by rw [l2]; omega), z ++ (", " : Str), rfl, rfl, ?_, Nat.le_of_eq (by rw [Str.length_append, l2])⟩
            rw [if_neg (by omega), cl_app]
            exact ag.add
          · have e : ¬ (0 : Int) < (j : Nat) := of_decide_eq_false e
            refine ⟨z, rfl, rfl, ?_, by omega⟩
            rw [if_pos (by omega)]
            show Agr _ _ (_ ++ [])
            rw [List.append_nil]
            exact ag
          rintro σ' H' ⟨z', rfl, rfl, ag', hlz'⟩
          have hS3 := hS1.same (s2.trans s3)
          refine ⟨_, rfl, _, rfl, _, rfl, x, A.Parts, dxp, _, .ref mm, rfl, s3 _ _ e5, L.c_Parts.cl, L.n_Parts_held, lk_hit, _, rfl, mm, _, _, v', rfl, rfl, SqL.of (s3 _ _ e6), atI_nat hv', _, rfl, _, rfl, _, rfl, z', rfl, hz _ (by omega), _, _, rfl, rfl, ?_⟩
          refine ⟨sa, S, v', d', W, ar ++ [i], room - (z'.length : Nat), rfl, hS3, hvd.sv (Same.sv s3), hw, hsm, okd, he, s3 _ _ hW, hl11, hn1, by omega, fun H4 y s4 agy hly hy0 => ?_⟩
          have hlen : z'.length + y.length ≤ 1001 + 10000 * n + 2008 * (j + 1) := by
            by_cases h : room - (z'.length : Nat) < 0
            · rw [hy0 h]; omega
            · omega
          refine ⟨_, _, rfl, rfl, hz _ (by omega), _, z' ++ y, rfl, s3.trans s4, ?_, by rw [Str.length_append]; exact hlen⟩
          rw [heldF_take hrow, cl_app]
          have := agr_step (room := room) (a := cl z') (y := cl y) ag' (by rw [cl_len]; exact agy)
          have e8 : rowF (fullW S n (ar ++ [i])) [d'] = fullW S n (ar ++ [i]) d' := by
            show _ ++ [] = _
            rw [List.append_nil]
          rw [e8]
          simpa [List.append_assoc] using this
        · rintro σ H3 ⟨yk, z, rfl, s3, ag, hlz⟩
          have : (rowsT (.parts ds)).take us.length = rowsT (.parts ds) := List.take_of_length_le (by show (ds.map _).length ≤ _; rw [List.length_map]; omega)
          rw [this] at ag
          obtain ⟨f1, f2⟩ := fin H3 z s3 ag (by omega)
          exact ⟨_, rfl, _, rfl, "[]", 1, 93, rfl, rfl, mz, m1, _, _, rfl, rfl, f1, f2⟩
      | table es =>
        refine iteT ?_
        refine ⟨_, rfl, b, A.Ref, db, _, _, rfl, hb1, L.c_Ref.cl, L.n_Ref_number, lk_hit, _, rfl, l, _, rfl, .inl (SqL.of hl1), rfl, flat, _, rfl, ?_⟩
        show if inV (.int (i : Nat)) (ar.map fun n => V.int (n : Nat)) = true then _ else _
        rw [inA_dec]
        have stop : (i ∈ ar ∨ 10 ≤ ar.length) → Q (.str ((⟨#[123]⟩ : Str) ++ ("..." : Str) ++ (⟨#[125]⟩ : Str))) H1 := fun hst => by
          refine q H1 _ s1 ?_ ?_ fun h => absurd h neg
          · rw [FW, if_pos hst, cl_app, cl_app]
            rfl
          · have : (((⟨#[123]⟩ : Str) ++ ("..." : Str) ++ (⟨#[125]⟩ : Str))).length = 5 := by decide +kernel
            rw [this]
            omega
        have mz : (("{}" : Str)).length ≤ sizeLine := hz _ (by decide +kernel)
        have m0 : atI (("{}" : Str)).cps.toList 0 = some 123 := atI_nat (j := 0) (by decide +kernel)
        have m1 : atI (("{}" : Str)).cps.toList 1 = some 125 := atI_nat (j := 1) (by decide +kernel)
        refine ite_or (fun e3 => ?_) fun e3 => ?_
        · exact iteT ⟨_, rfl, "{}", 0, 123, rfl, rfl, mz, m0, _, _, rfl, rfl, hz _ (by decide +kernel), _, rfl, "{}", 1, 125, rfl, rfl, mz, m1, _, _, rfl, rfl, hz _ (by decide +kernel), stop (.inl (of_decide_eq_true e3))⟩
        refine ⟨_, rfl, l, _, rfl, .inl (SqL.of hl1), _, _, rfl, rfl, _, rfl, ite_or (fun e4 => ?_) fun e4 => ?_⟩
        · have h4 : 10 ≤ ar.length := by
            have e4 : decide ((10 : Int) ≤ ((ar.map fun n => V.int (n : Nat)).length : Nat)) = true := e4
            have := of_decide_eq_true e4
            rw [List.length_map] at this
            omega
          exact ⟨_, rfl, "{}", 0, 123, rfl, rfl, mz, m0, _, _, rfl, rfl, hz _ (by decide +kernel), _, rfl, "{}", 1, 125, rfl, rfl, mz, m1, _, _, rfl, rfl, hz _ (by decide +kernel), stop (.inr h4)⟩
        have hst : ¬ (i ∈ ar ∨ 10 ≤ ar.length) := by
          rintro (h | h)
          · exact of_decide_eq_false e3 h
          · have e4 : decide ((10 : Int) ≤ ((ar.map fun n => V.int (n : Nat)).length : Nat)) = false := e4
            have := of_decide_eq_false e4
            rw [List.length_map] at this
            omega
        have hn1 : 1 ≤ n := by omega
        rw [FW, if_neg hst] at q
        refine ⟨_, rfl, _, rfl, b, A.Ref, db, _, _, rfl, hb1, L.c_Ref.cl, L.n_Ref_number, lk_hit, ?_⟩
        refine ⟨by show 1 ≤ sizeLine; decide, fun U nU => ⟨l, U, _, _, rfl, rfl, same_upd nU _ _ hl1, upd_same, hz _ (by rw [List.length_map]; show ar.length + 1 ≤ _; omega), fun W nW => ?_⟩⟩
        have s2 : Same H1 (upd (upd H1 U (.lst [.int (i : Nat)])) W (.lst (ar.map (fun n => V.int (n : Nat)) ++ [.int (i : Nat)]))) := (same_upd nU).trans (same_upd nW)
        have hW : (upd (upd H1 U (.lst [.int (i : Nat)])) W (.lst (ar.map (fun n => V.int (n : Nat)) ++ [.int (i : Nat)]))) W = some (.lst ((ar ++ [i]).map fun n => V.int (n : Nat))) := by rw [upd_same, List.map_append]; rfl
        generalize upd (upd H1 U (.lst [.int (i : Nat)])) W (.lst (ar.map (fun n => V.int (n : Nat)) ++ [.int (i : Nat)])) = H2 at s2 hW
        have s02 := s1.trans s2
        have hth2 : ThAt P w A H2 x mm _ := hth1.imp (Sv.vk (Same.sv s2)) (fun u e => s2 _ _ e) fun u e => s2 _ _ e
        refine ⟨_, rfl, "{}", 0, 123, rfl, rfl, mz, m0, ?_⟩
        refine ⟨_, rfl, _, .ref A.Parts, _, .ref A.Parts, _, rfl, .own _, th_ty L hth2, kit_P L _, _, rfl, iteF ?_⟩
        have hl11 : (ar ++ [i]).length + n = 11 := by rw [List.length_append, List.length_singleton]; omega
        have ecl : ∀ z : Str, cl (z ++ (⟨#[125]⟩ : Str)) = cl z ++ cl (cls' (.table es)) := fun z => cl_app _ _
        have fin : ∀ (H' : Hp) (z : Str), Same H2 H' → Agr (room + 1).toNat (cl z) (cl (opn (.table es)) ++ heldF (fullW S n (ar ++ [i])) "" (rowsT (.table es))) → z.length ≤ 1001 + 10000 * n + 2008 * 4 → z.length + 1 ≤ sizeLine ∧ Q (.str (z ++ (⟨#[125]⟩ : Str))) H' := fun H' z s3 ag hlz => by
          refine ⟨hz _ (by omega), q H' _ (s02.trans s3) ?_ ?_ fun h => absurd h neg⟩
          · rw [ecl]
            exact ag.add
          · rw [Str.length_append]
            show z.length + 1 ≤ _
            omega
        obtain ⟨ents, hT, hE, hnd, hle⟩ := id hth2
        obtain ⟨⟨dxt, hx1⟩, hdT, _⟩ := id hT
        have hd4 : es.length ≤ 4 := by have : (rowsT (.table es)).length = es.length := List.length_map _; omega
        refine ⟨_, rfl, x, dxt, _, rfl, hx1, tab_none (by decide +kernel), x, mm, ents, rfl, hT, fun H2' pl s2' npl hpl => ?_⟩
        have hR : Rws A H2' (ents.map (·.2.2)) (rowsT (.table es)) := ents_rws (hE.imp (fun _ _ h => h.sv (Same.sv s2')) fun q xs e => s2' _ _ e)
        have hRl := hR.len
        have hrl : (rowsT (.table es)).length = es.length := List.length_map _
        have hW' := s2' _ _ hW
        have s02' := s2.trans s2'
        refine ⟨_, rfl, pl, _, rfl, .inl (SqL.of hpl), _, rfl, by omega, by omega, for_range (n := (ents.map (·.2.2)).length) (fun j σ H' => ∃ (yk : Option V) (z : Str), σ = [some (.ref sa.s), some (.ref b), some (.ref l), some (.int room), some (.ref x), some (.str "{}"), some (.ref W), some (.str z), yk, some (.ref pl)] ∧ Same H2' H' ∧ Agr (room + 1).toNat (cl z) (cl (opn (.table es)) ++ heldF (fullW S n (ar ++ [i])) "" ((rowsT (.table es)).take j)) ∧ z.length ≤ 1001 + 10000 * n + 2008 * j)
          ⟨none, _, rfl, fun _ _ e => e, by rw [List.take_zero]; exact Agr.rfl', by show 1 ≤ _; omega⟩ ?_ ?_⟩
        · rintro j σ H3 hj ⟨yk, z, rfl, s3, ag, hlz⟩
          rw [Int.zero_add]
          obtain ⟨vq, hvq⟩ : ∃ vq, (ents.map (·.2.2))[j]? = some vq := ⟨_, List.getElem?_eq_getElem (by omega)⟩
          obtain ⟨e0, he0⟩ : ∃ e0, es[j]? = some e0 := ⟨_, List.getElem?_eq_getElem (by omega)⟩
          obtain ⟨r, qa, us, hrow, rfl, hqa, hus⟩ := hR.at hvq
          have hrow' : (rowsT (.table es))[j]? = some [e0.1, e0.2] := by show (es.map _)[j]? = _; rw [List.getElem?_map, he0]; rfl
          rw [hrow'] at hrow
          cases hrow
          obtain ⟨u1, u2, rfl, hu1, hu2⟩ : ∃ u1 u2, us = [u1, u2] ∧ Has A H2' u1 e0.1 ∧ Has A H2' u2 e0.2 := by
            match us, hus with
            | [u1, u2], h => exact ⟨u1, u2, rfl, h.1, h.2.1⟩
            | [], h => exact h.elim
            | [_], h => exact h.2.elim
            | _ :: _ :: _ :: _, h => exact h.2.2.elim
          obtain ⟨okk, okk1, okd⟩ := okt e0 (List.mem_of_getElem? he0)
          have hk0 : thO S e0.1 = none := by
            cases hd : e0.1 with
            | obj n => rw [hd] at okk; cases okk
            | _ => rfl
          have fk : fullW S n (ar ++ [i]) e0.1 = plainF S e0.1 := by
            cases n with
            | zero => exact absurd hn1 (by decide)
            | succ n' =>
              unfold fullW
              rw [hk0]
          let M : List (Option V) → Hp → Prop := fun σ' H' => ∃ z' : Str, σ' = [some (.ref sa.s), some (.ref b), some (.ref l), some (.int room), some (.ref x), some (.str "{}"), some (.ref W), some (.str z'), some (.int (j : Nat)), some (.ref pl)] ∧ H' = H3 ∧ Agr (room + 1).toNat (cl z') (cl (opn (.table es)) ++ heldF (fullW S n (ar ++ [i])) "" ((rowsT (.table es)).take j) ++ cl (if j = 0 then "" else ", ")) ∧ z'.length ≤ z.length + 2
          have l2 : ((", " : Str)).length = 2 := by decide +kernel
          have l3 : ((": " : Str)).length = 2 := by decide +kernel
          refine ⟨M, ⟨_, rfl, _, _, rfl, rfl, _, rfl, ite_or (fun e => ?_) fun e => ?_⟩, ?_⟩
          · have e : (0 : Int) < (j : Nat) := of_decide_eq_true e
            refine ⟨_, rfl, _, _, rfl, rfl, hz _ (by rw [l2]; omega), z ++ (", " : Str), rfl, rfl, ?_, Nat.le_of_eq (by rw [Str.length_append, l2])⟩
            rw [if_neg (by omega), cl_app]
            exact ag.add
          · have e : ¬ (0 : Int) < (j : Nat) := of_decide_eq_false e
            refine ⟨z, rfl, rfl, ?_, by omega⟩
            rw [if_pos (by omega)]
            show Agr _ _ (_ ++ [])
            rw [List.append_nil]
            exact ag
          rintro σ' H' ⟨z', rfl, rfl, ag', hlz'⟩
          have hS3 := hS1.same (s02'.trans s3)
          refine ⟨_, rfl, _, rfl, _, rfl, _, rfl, pl, _, _, .ref qa, rfl, rfl, SqL.of (s3 _ _ hpl), atI_nat hvq, qa, _, _, u1, rfl, rfl, SqT.of (s3 _ _ hqa), atI_nat (j := 0) rfl, ?_⟩
          refine ⟨sa, S, u1, e0.1, rfl, hS3, hu1.sv (Same.sv s3), hw, okk1, he, fun H4 y s4 ey => ?_⟩
          have hyl : y.length ≤ 2002 := by
            rw [← cl_len, ey]
            exact plainF_len hw okk1
          refine ⟨_, _, rfl, rfl, hz _ (by omega), _, _, rfl, rfl, hz _ (by rw [Str.length_append, l3]; omega), ?_⟩
          have hS4 := hS3.same s4
          have s34 := s3.trans s4
          have hl3 : (z' ++ y ++ (": " : Str)).length ≤ z.length + 2006 := by rw [Str.length_append, Str.length_append, l3]; omega
          have ag3 : Agr (room + 1).toNat (cl (z' ++ y ++ (": " : Str))) (cl (opn (.table es)) ++ heldF (fullW S n (ar ++ [i])) "" ((rowsT (.table es)).take j) ++ cl (if j = 0 then "" else ", ") ++ plainF S e0.1 ++ cl ": ") := by
            rw [cl_app, cl_app, ey]
            exact ag'.add.add
          generalize z' ++ y ++ (": " : Str) = z3 at hl3 ag3
          refine ⟨_, rfl, _, rfl, _, rfl, _, rfl, pl, _, _, .ref qa, rfl, rfl, SqL.of (s34 _ _ hpl), atI_nat hvq, qa, _, _, u2, rfl, rfl, SqT.of (s34 _ _ hqa), atI_nat (j := 1) rfl, _, rfl, _, rfl, _, rfl, z3, rfl, hz _ (by omega), _, _, rfl, rfl, ?_⟩
          refine ⟨sa, S, u2, e0.2, W, ar ++ [i], room - (z3.length : Nat), rfl, hS4, hu2.sv (Same.sv s34), hw, hsm, okd, he, s34 _ _ hW', hl11, hn1, by omega, fun H5 y5 s5 agy hly hy0 => ?_⟩
          have hlen : z3.length + y5.length ≤ 1001 + 10000 * n + 2008 * (j + 1) := by
            by_cases h : room - (z3.length : Nat) < 0
            · rw [hy0 h]; omega
            · omega
          refine ⟨_, _, rfl, rfl, hz _ (by omega), _, z3 ++ y5, rfl, s34.trans s5, ?_, by rw [Str.length_append]; exact hlen⟩
          rw [heldF_take hrow', cl_app]
          have := agr_step (room := room) (a := cl z3) (y := cl y5) ag3 (by rw [cl_len]; exact agy)
          have e8 : rowF (fullW S n (ar ++ [i])) [e0.1, e0.2] = plainF S e0.1 ++ (cl ": " ++ fullW S n (ar ++ [i]) e0.2) := by
            show fullW S n (ar ++ [i]) e0.1 ++ (cl ": " ++ fullW S n (ar ++ [i]) e0.2 ++ []) = _
            rw [List.append_nil, fk]
          rw [e8]
          simpa [List.append_assoc] using this
        · rintro σ H3 ⟨yk, z, rfl, s3, ag, hlz⟩
          have : (rowsT (.table es)).take (ents.map (·.2.2)).length = rowsT (.table es) := List.take_of_length_le (by omega)
          rw [this] at ag
          obtain ⟨f1, f2⟩ := fin H3 z (s2'.trans s3) ag (by omega)
          exact ⟨_, rfl, _, rfl, "{}", 1, 125, rfl, rfl, mz, m1, _, _, rfl, rfl, f1, f2⟩
      | _ => cases hC
    | _ => cases e1
theorem ok_law_form (L : Lib P K mg A) : ∀ n : Nat, FnOk P w K mg base CX0 (n + 3) L.law_form.f L.law_form.fd ["store", "value", "around", "room"] (spLF P w A n)
  | 0 => by
    refine L.law_form.F.ok sc_law_form (fun vs H Q E h => ?_) (fun cdv A' outer s H vs Q E hr h => ?_)
    · obtain ⟨sa, S, v, d, l, ar, room, rfl, _⟩ := h
      rfl
    · obtain ⟨sa, S, v, d, l, ar, room, rfl, hS, hv, hw, hsm, ok, he, hl, har, hn, _⟩ := h
      exact absurd hn (by decide)
  | n + 1 => ok_law_form_step L (ok_law_form L n)
end
end My
namespace My
open PySem L2 SX XT XS XE XD XL
open C8 (pss_cut tCut cutS_slice pe_gc)
section
variable {P : Program} {w : World} {K : PySem.W.Frag} {mg : Str → Option Value} {base : Heap} {A : Ads}
theorem SM.grow {H H1 : Hp} {a : Sa} {S : St} {x m : Addr} (L : Lib P K mg A) (h : SM P w A H a S) (s1 : Same H H1) (nx : H x = none) (nm : H m = none) :
    x ∉ a.X ∧ m ∉ a.t :: a.o :: a.l :: a.M ∧ ∀ H2, Keep a.t H1 H2 → Ev a { a with X := a.X ++ [x], M := a.M ++ [m] } H H2 := by
  have fx := h.fresh L nx
  have fm := h.fresh L nm
  refine ⟨fun z => fx (.inr (.inr (.inr (.inr (.inl z))))), fun z => ?_, fun H2 k => ⟨fun b u e n => k _ _ (s1 _ _ e) fun z => n (.inr (.inl z)), rfl, fun b z => ?_⟩⟩
  · simp only [List.mem_cons] at z
    rcases z with z | z | z | z
    · exact fm (.inr (.inl z))
    · exact fm (.inr (.inr (.inl z)))
    · exact fm (.inr (.inr (.inr (.inl z))))
    · exact fm (.inr (.inr (.inr (.inr (.inr z)))))
  · rcases z with z | z | z | z | z | z
    · exact .inl (.inl z)
    · exact .inl (.inr (.inl z))
    · exact .inl (.inr (.inr (.inl z)))
    · exact .inl (.inr (.inr (.inr (.inl z))))
    · rcases List.mem_append.mp z with z | z
      · exact .inl (.inr (.inr (.inr (.inr (.inl z)))))
      · rw [List.mem_singleton] at z; exact .inr (z ▸ nx)
    · rcases List.mem_append.mp z with z | z
      · exact .inl (.inr (.inr (.inr (.inr (.inr z)))))
      · rw [List.mem_singleton] at z; exact .inr (z ▸ nm)

def spII (A : Ads) : Sp := fun vs H Q _ => ∃ x dx v, vs = [.ref x, v] ∧ H x = some (.ins A.Instance dx []) ∧ ∀ H' m, Keep x H H' → H' x = some (.ins A.Instance dx (insF v m)) → H m = none → H' m = some (.dK []) → Q .non H'
theorem ok_Instance_init (L : Lib P K mg A) : FnOk P w K mg base CX0 1 L.Instance_init.f L.Instance_init.fd ["self", "owner"] (spII A) := by
  refine L.Instance_init.F.ok sc_Instance_init (fun vs H Q E h => ?_) (fun cdv A' outer s H vs Q E hr h => ?_)
  · obtain ⟨x, dx, v, rfl, _⟩ := h
    rfl
  · obtain ⟨x, dx, v, rfl, ha, q⟩ := h
    refine ⟨_, (pss_cons (ps_fld (pv 0) (pv 1) rfl)
      (pss_one (ps_fld (pv 0) pe_dnewK rfl))), ?_⟩
    refine ⟨_, rfl, _, rfl, x, A.Instance, dx, _, rfl, ha, L.c_Instance.cl, L.n_Instance_owner, (by show 0 < 1000; decide), ?_⟩
    refine fun m hm => ?_
    have nam : x ≠ m := ne_of_none upd_same hm
    refine ⟨_, rfl, x, A.Instance, dx, _, rfl, (by rw [upd_ne nam]; exact upd_same), L.c_Instance.cl, L.n_Instance_named, (by show 1 < 1000; decide), ?_⟩
    exact q _ m (fun b o e n => by rw [upd_ne n, upd_ne (ne_of_none (H := upd H x _) (by rw [upd_ne n]; exact e) hm), upd_ne n]; exact e) upd_same (by rw [upd_ne nam.symm] at hm; exact hm) (by rw [upd_ne nam.symm]; exact upd_same)

variable {a p : Addr} {ns : List Int} {H7 H H2 H3 : Hp} {sa sa' : Sa} {S S' : St}
theorem LI.grow (L : Lib P K mg A) (I : LI P w K A a p ns H7 H sa S) (I2 : LI P w K A a p ns H7 H2 sa S) {x m : Addr} (nx : H x = none) (nm : H m = none) :
    x ∉ sa.X ∧ m ∉ sa.t :: sa.o :: sa.l :: sa.M ∧ ∀ H3 S', Keep sa.t H2 H3 → SM P w A H3 { sa with X := sa.X ++ [x], M := sa.M ++ [m] } S' → LI P w K A a p ns H7 H3 { sa with X := sa.X ++ [x], M := sa.M ++ [m] } S' := by
  obtain ⟨g1, g2, g3⟩ := I.sm.grow L (H1 := H) (fun _ _ e => e) nx nm
  refine ⟨g1, g2, fun H3 S' k sm => ?_⟩
  have ot : sa.own sa.t := .inr (.inl rfl)
  have kk : Keep p H7 H3 := fun b u e n => k _ _ (I2.k7 _ _ e n) fun z => by rw [z, I2.fr _ ot] at e; cases e
  obtain ⟨y, c, hp, h0, _⟩ := I2.st
  have pt : p ≠ sa.t := fun z => I2.np (z ▸ ot)
  refine ⟨I2.st7, kk, I2.st7.ofK kk (k _ _ hp pt) h0, sm, fun b z => ?_⟩
  rcases (g3 H (fun _ _ e _ => e)).gw b z with q | q
  · exact I2.fr b q
  · exact I.h7 q
end
end My
namespace My
open PySem L2 SX XT XS XE XD XL
open C8 (pss_cut tCut cutS_slice pe_gc)
section
variable {P : Program} {w : World} {K : PySem.W.Frag} {mg : Str → Option Value} {base : Heap} {A : Ads}
def okM (many : Nat) : Dv → Prop
  | .obj n => n < many
  | .str x => x.length ≤ 6
  | .int i => i.natAbs.log2 < 1920
  | _ => True
def spVal (K : PySem.W.Frag) (A : Ads) : Sp := fun vs H Q _ => ∃ (a p : Addr) (ns : List Int) (many : Nat), vs = [.ref p, .int (many : Nat)] ∧ StL K H a p ns ∧ 0 < many ∧ many ≤ 100 ∧ ∀ H' v d, Keep p H H' → StL K H' a p ns → Has A H' v d → okM many d → Q v H'
theorem ok_law_value (L : Lib P K mg A) : FnOk P w K mg base CX0 4 L.law_value.f L.law_value.fd ["state", "many"] (spVal K A) := by
  have G_law_draw : FnOk P w K mg base CX0 2 L.law_draw.f L.law_draw.fd ["state", "many"] (spDraw K) := ok_law_draw L
  have G_law_pick : FnOk P w K mg base CX0 3 L.law_pick.f L.law_pick.fd ["state", "row"] (spPick K) := ok_law_pick L
  have G_Ref_init : FnOk P w K mg base CX0 1 L.Ref_init.f L.Ref_init.fd ["self", "number"] (spI1 A.Ref "number") := ok_Ref_init L
  have G_Builtin_init : FnOk P w K mg base CX0 1 L.Builtin_init.f L.Builtin_init.fd ["self", "name"] (spI1 A.Builtin "name") := ok_Builtin_init L
  refine L.law_value.F.ok sc_law_value (fun vs H Q E h => ?_) (fun cdv A' outer s H vs Q E hr h => ?_)
  · obtain ⟨a, p, ns, many, rfl, _⟩ := h
    rfl
  · obtain ⟨a, p, ns, many, rfl, st, m0, m1, q⟩ := h
    have nd := sc_law_value.nd
    refine ⟨_, (pss_cons (ps_set (i := 2) sc_law_value.nd rfl (.inl rfl) (pe_call G_law_draw (hr.mono (by omega)) (by rfl) L.law_draw.g L.law_draw.F.kp L.law_draw.b .nil pass0 (pa_cons (pv 0) (pa_cons pe_int pa_nil))))
      (pss_cons (ps_if (pt_cmpR op_eq (pv 2) pe_int (nomark _))
        (pss_one (ps_ret (pe_call G_law_pick (hr.mono (by omega)) (by rfl) L.law_pick.g L.law_pick.F.kp L.law_pick.b .nil pass0 (pa_cons (pv 0) (pa_cons (pe_tup (pa_cons pe_non (pa_cons pe_bl (pa_cons pe_bl pa_nil)))) pa_nil)))))
        pss_nil)
      (pss_cons (ps_if (pt_cmpR op_eq (pv 2) pe_int (nomark _))
        (pss_one (ps_ret (pe_call G_law_pick (hr.mono (by omega)) (by rfl) L.law_pick.g L.law_pick.F.kp L.law_pick.b .nil pass0 (pa_cons (pv 0) (pa_cons (pe_tup (pa_cons pe_int (pa_cons (pe_un un_neg pe_int) (pa_cons pe_int (pa_cons (pe_un un_neg pe_int) (pa_cons (pe_op op_pow pe_int pe_int) pa_nil)))))) pa_nil)))))
        pss_nil)
      (pss_cons (ps_if (pt_cmpR op_lt (pv 2) pe_int (nomark _))
        (pss_cons (ps_set (i := 3) sc_law_value.nd rfl (.inl rfl) pe_str)
      (pss_cons (ps_set (i := 4) sc_law_value.nd rfl (.inl rfl) pe_str)
      (pss_cons (ps_for PassesOwn.never rfl (pi_range1 (by rfl) L.z_range (pa_cons (pe_call G_law_draw (hr.mono (by omega)) (by rfl) L.law_draw.g L.law_draw.F.kp L.law_draw.b .nil pass0 (pa_cons (pv 0) (pa_cons pe_int pa_nil))) pa_nil)) (pg_name (i := 5) sc_law_value.nd rfl (.inl rfl))
        (pss_one (ps_set (i := 4) sc_law_value.nd rfl (.inl rfl) (pe_op op_add_str (pv 4) (pe_ix ix_str (pv 3) (pe_call G_law_draw (hr.mono (by omega)) (by rfl) L.law_draw.g L.law_draw.F.kp L.law_draw.b .nil pass0 (pa_cons (pv 0) (pa_cons (pe_callB call_len_str (by rfl) L.z_len PySem.boot_len (pa_cons (pv 3) pa_nil)) pa_nil))) (fun _ _ => rfl))))))
      (pss_one (ps_ret (pv 4))))))
        pss_nil)
      (pss_cons (ps_if (pt_cmpR op_eq (pv 2) pe_int (nomark _))
        (pss_one (ps_ret (pe_make L.Builtin_init.m G_Builtin_init (hr.mono (by omega)) (by rfl) L.c_Builtin.g L.Builtin_init.b .nil pass0 (pa_cons pe_str pa_nil))))
        pss_nil)
      (pss_one (ps_ret (pe_make L.Ref_init.m G_Ref_init (hr.mono (by omega)) (by rfl) L.c_Ref.g L.Ref_init.b .nil pass0 (pa_cons (pe_call G_law_draw (hr.mono (by omega)) (by rfl) L.law_draw.g L.law_draw.F.kp L.law_draw.b .nil pass0 (pa_cons (pv 0) (pa_cons (pv 1) pa_nil))) pa_nil))))))))), ?_⟩
    have hz : ∀ n : Nat, n ≤ 1000000 → n ≤ sizeLine := fun n h => by rw [sizeLine_eq]; omega
    refine ⟨_, rfl, a, p, ns, 9, rfl, st, by decide, by decide, fun H1 r k1 st1 r0 r9 => ?_⟩
    obtain ⟨xp, kp, hp1, _⟩ := id st1
    refine ⟨_, rfl, rfl, _, rfl, ite_or (fun e => ?_) fun e0 => ?_⟩
    · refine ⟨_, rfl, (by show 3 ≤ sizeLine; decide), fun T nT => ?_⟩
      have s2 := same_upd (o := .tup [.non, .bl true, .bl false]) nT
      refine ⟨a, p, T, ns, _, rfl, st1.same s2, .inl (.inl upd_same), (by show 0 < 3; decide), (by show 3 ≤ 100; decide), fun H3 v hv k3 st3 => ?_⟩
      have kk : Keep p H H3 := (k1.trans (My.Same.keep s2)).trans k3
      simp only [List.mem_cons, List.not_mem_nil, or_false] at hv
      rcases hv with rfl | rfl | rfl
      · exact q H3 _ .non kk st3 rfl trivial
      · exact q H3 _ (.bl true) kk st3 rfl trivial
      · exact q H3 _ (.bl false) kk st3 rfl trivial
    refine ⟨_, rfl, rfl, _, rfl, ite_or (fun e => ?_) fun e1 => ?_⟩
    · refine ⟨_, rfl, _, rfl, _, rfl, _, _, rfl, rfl, ⟨by decide, by decide, by decide⟩, (by show 5 ≤ sizeLine; decide), fun T nT => ?_⟩
      have s2 := same_upd (o := .tup [.int 0, .int (-1), .int 12, .int (-345), .int ((10 : Int) ^ (40 : Int).toNat)]) nT
      refine ⟨a, p, T, ns, _, rfl, st1.same s2, .inl (.inl upd_same), (by show 0 < 5; decide), (by show 5 ≤ 100; decide), fun H3 v hv k3 st3 => ?_⟩
      have kk : Keep p H H3 := (k1.trans (My.Same.keep s2)).trans k3
      simp only [List.mem_cons, List.not_mem_nil, or_false] at hv
      rcases hv with rfl | rfl | rfl | rfl | rfl
      · exact q H3 _ (.int 0) kk st3 rfl (by show (0 : Int).natAbs.log2 < 1920; decide +kernel)
      · exact q H3 _ (.int (-1)) kk st3 rfl (by show (-1 : Int).natAbs.log2 < 1920; decide +kernel)
      · exact q H3 _ (.int 12) kk st3 rfl (by show (12 : Int).natAbs.log2 < 1920; decide +kernel)
      · exact q H3 _ (.int (-345)) kk st3 rfl (by show (-345 : Int).natAbs.log2 < 1920; decide +kernel)
      · exact q H3 _ (.int ((10 : Int) ^ (40 : Int).toNat)) kk st3 rfl (by show ((10 : Int) ^ (40 : Int).toNat).natAbs.log2 < 1920; decide +kernel)
    refine ⟨_, rfl, _, _, rfl, rfl, _, rfl, ite_or (fun e => ?_) fun e2 => ?_⟩
    · refine ⟨_, rfl, a, p, ns, 7, rfl, st1, by decide, by decide, fun H2 m k2 st2 m0 m7 => ?_⟩
      obtain ⟨m', rfl⟩ : ∃ m' : Nat, m = (m' : Int) := ⟨m.toNat, by omega⟩
      have k02 := k1.trans k2
      refine ⟨_, rfl, by omega, by omega, for_range (n := m') (fun j σ H' => ∃ (yk : Option V) (z : Str), σ = [some (.ref p), some (.int (many : Nat)), some (.int r), some (.str "ab\"\\\n 'n{}[]"), some (.str z), yk] ∧ Keep p H H' ∧ StL K H' a p ns ∧ z.length = j) ⟨none, _, rfl, k02, st2, rfl⟩ ?_ ?_⟩
      · rintro j σ H3 hj ⟨yk, z, rfl, k3, st3, hzl⟩
        have l12 : (("ab\"\\\n 'n{}[]" : Str)).length = 12 := by decide +kernel
        refine ⟨_, rfl, _, rfl, _, rfl, _, rfl, "ab\"\\\n 'n{}[]", rfl, hz _ (by rw [l12]; decide), a, p, ns, _, rfl, st3, by rw [l12]; decide, by rw [l12]; decide, fun H4 c k4 st4 c0 c1 => ?_⟩
        obtain ⟨c', rfl⟩ : ∃ c' : Nat, c = (c' : Int) := ⟨c.toNat, by omega⟩
        rw [l12] at c1
        have hc : c' < (("ab\"\\\n 'n{}[]" : Str)).cps.toList.length := by
          have : (("ab\"\\\n 'n{}[]" : Str)).cps.toList.length = 12 := by decide +kernel
          omega
        refine ⟨"ab\"\\\n 'n{}[]", _, _, rfl, rfl, hz _ (by rw [l12]; decide), atI_nat (List.getElem?_eq_getElem hc), _, _, rfl, rfl, hz _ (by show z.length + 1 ≤ _; omega), _, _, rfl, k3.trans k4, st4, by rw [Str.length_append, hzl]; rfl⟩
      · rintro σ H3 ⟨yk, z, rfl, k3, st3, hzl⟩
        exact ⟨_, rfl, q H3 _ (.str z) k3 st3 rfl (by show z.length ≤ 6; omega)⟩
    refine ⟨_, rfl, rfl, _, rfl, ite_or (fun e => ?_) fun e3 => ?_⟩
    · intro x dx nx ndx ndxx
      refine ⟨x, dx, _, rfl, upd_same, fun H2 k2 hx => ⟨rfl, ?_⟩⟩
      have s2 := Same.made nx ndx k2
      exact q H2 _ (.bi "len") (k1.trans (My.Same.keep s2)) (st1.same s2) ⟨x, dx, rfl, hx⟩ trivial
    · refine ⟨_, rfl, _, rfl, a, p, ns, many, rfl, st1, by omega, by omega, fun H2 m k2 st2 m0' m7 => ?_⟩
      obtain ⟨m', rfl⟩ : ∃ m' : Nat, m = (m' : Int) := ⟨m.toNat, by omega⟩
      intro x dx nx ndx ndxx
      refine ⟨x, dx, _, rfl, upd_same, fun H3 k3 hx => ⟨rfl, ?_⟩⟩
      have s3 := Same.made nx ndx k3
      exact q H3 _ (.obj m') ((k1.trans k2).trans (My.Same.keep s3)) (st2.same s3) ⟨x, dx, rfl, hx⟩ (by show m' < many; omega)
end
end My
namespace My
open PySem L2 SX XT XS XE XD XL
open C8 (pss_cut tCut cutS_slice pe_gc)
section
variable {P : Program} {w : World} {K : PySem.W.Frag} {mg : Str → Option Value} {base : Heap} {A : Ads}
def newT : Th → Prop
  | .parts ds => ds = []
  | .table es => es = []
  | .inst o ns => o = .obj 0
  | .kin nm _ _ => nm.length ≤ 1000
  | _ => True
def goodT (many b : Nat) : Th → Prop
  | .parts ds => ds.length ≤ b ∧ ∀ d ∈ ds, okM many d
  | .table es => es.length ≤ b ∧ ∀ e ∈ es, keyD e.1 = true ∧ okM many e.1 ∧ okM many e.2
  | .inst o ns => o = .obj 0
  | .kin nm _ _ => nm.length ≤ 1000
  | _ => True
def bnd (i j n : Nat) : Nat := if n < 1 + i then 4 else if n = 1 + i then j else 0
theorem goodT.mono {many b c : Nat} (h : b ≤ c) {t : Th} (g : goodT many b t) : goodT many c t := by
  cases t with
  | parts ds => exact ⟨Nat.le_trans g.1 h, g.2⟩
  | table es => exact ⟨Nat.le_trans g.1 h, g.2⟩
  | _ => exact g
theorem newT.good {many b : Nat} {t : Th} (g : newT t) : goodT many b t := by
  cases t with
  | parts ds =>
    have : ds = [] := g
    subst this
    exact ⟨Nat.zero_le _, fun d h => by cases h⟩
  | table es =>
    have : es = [] := g
    subst this
    exact ⟨Nat.zero_le _, fun d h => by cases h⟩
  | _ => exact g
theorem putE_good {many : Nat} {es : List (Dv × Dv)} {k d : Dv} (hk : keyD k = true) (ok : okM many k) (od : okM many d) (h : ∀ e ∈ es, keyD e.1 = true ∧ okM many e.1 ∧ okM many e.2) : ∀ e ∈ putE es k d, keyD e.1 = true ∧ okM many e.1 ∧ okM many e.2 := by
  intro e he
  unfold putE at he
  split at he
  · obtain ⟨x, hx, rfl⟩ := List.mem_map.mp he
    split
    · exact ⟨(h x hx).1, (h x hx).2.1, od⟩
    · exact h x hx
  · rcases List.mem_append.mp he with he | he
    · exact h e he
    · rw [List.mem_singleton] at he
      subst he
      exact ⟨hk, ok, od⟩
theorem okM.okW {S : St} {many : Nat} (hl : S.things.length = many) {d : Dv} (h : okM many d) : okW S d := by
  cases d with
  | obj n =>
    show n < S.things.length
    rw [hl]
    exact h
  | str x => exact Nat.le_trans (show x.length ≤ 6 from h) (by decide)
  | _ => exact h
theorem good_all {S : St} {many : Nat} (hm : many ≤ 100) (hl : S.things.length = many) (h0 : S.things[0]? = some (.kin "Error" .non [])) (hg : ∀ (n : Nat) t, S.things[n]? = some t → goodT many 4 t) : WfS S ∧ ErrO S ∧ SmS S := by
  refine ⟨⟨by omega, fun n t e => ?_⟩, fun n o ns e => ?_, fun n t e => ?_⟩
  · have g := hg n t e
    cases t with
    | parts ds => exact ⟨Nat.le_trans g.1 (by decide), fun d hd => (g.2 d hd).okW hl⟩
    | table es => exact fun e he => ⟨(g.2 e he).1, (g.2 e he).2.1.okW hl, (g.2 e he).2.2.okW hl⟩
    | inst o ns => exact ⟨0, _, _, _, g, h0⟩
    | kin nm par ms => exact g
    | _ => trivial
  · have : o = .obj 0 := hg n _ e
    subst this
    unfold nameOf
    simp only [h0]
  · have g := hg n t e
    cases t with
    | parts ds => show (ds.map _).length ≤ 4; rw [List.length_map]; exact g.1
    | table es => show (es.map _).length ≤ 4; rw [List.length_map]; exact g.1
    | _ => exact Nat.zero_le _
theorem good_set {S : St} {many i j : Nat} {t' : Th} (hi : 1 + i < S.things.length) (h0 : S.things[0]? = some (.kin "Error" .non [])) (hg : ∀ (n : Nat) t, S.things[n]? = some t → goodT many (bnd i j n) t) (hn : goodT many (j + 1) t') :
    (S.things.set (1 + i) t')[0]? = some (.kin "Error" .non []) ∧ ∀ (n : Nat) t, (S.things.set (1 + i) t')[n]? = some t → goodT many (bnd i (j + 1) n) t := by
  refine ⟨by rw [List.getElem?_set_ne (by omega)]; exact h0, fun n t e => ?_⟩
  by_cases h : 1 + i = n
  · subst h
    rw [List.getElem?_set_self hi] at e
    cases e
    unfold bnd
    rw [if_neg (by omega), if_pos rfl]
    exact hn
  · rw [List.getElem?_set_ne h] at e
    refine (hg n t e).mono ?_
    unfold bnd
    split
    · exact Nat.le_refl _
    · rw [if_neg (by omega)]
      exact Nat.zero_le _
theorem shape_ok : ∀ r : Nat, r < 2 → MulOk "Shape" (1 + (r : Int)) ∧ (Txt.mul "Shape" (1 + (r : Int))).length ≤ 1000 := fun r h => by
  match r, h with
  | 0, _ => unfold MulOk; decide +kernel
  | 1, _ => unfold MulOk; decide +kernel
theorem keep_free {p b : Addr} {H H' : Hp} (k : Keep p H H') (hp : ∃ u, H p = some u) (n : H' b = none) (np : b ≠ p) : H b = none := by
  cases h : H b with
  | none => rfl
  | some u =>
    rw [k b u h np] at n
    cases n
def spFill (P : Program) (w : World) (K : PySem.W.Frag) (A : Ads) : Sp := fun vs H Q _ => ∃ (a p : Addr) (ns : List Int) (H7 : Hp) (sa : Sa) (many : Nat), vs = [.ref sa.s, .ref p, .int (many : Nat)] ∧ LI P w K A a p ns H7 H sa (stO []) ∧ 2 ≤ many ∧ many ≤ 100 ∧
  ∀ H' sa' S', LI P w K A a p ns H7 H' sa' S' → sa'.s = sa.s → S'.things.length = many → WfS S' → ErrO S' → SmS S' → Q (.bl true) H'
theorem ok_law_fill (L : Lib P K mg A) : FnOk P w K mg base CX0 5 L.law_fill.f L.law_fill.fd ["store", "state", "many"] (spFill P w K A) := by
  have G_law_draw : FnOk P w K mg base CX0 2 L.law_draw.f L.law_draw.fd ["state", "many"] (spDraw K) := ok_law_draw L
  have G_law_pick : FnOk P w K mg base CX0 3 L.law_pick.f L.law_pick.fd ["state", "row"] (spPick K) := ok_law_pick L
  have G_law_value : FnOk P w K mg base CX0 4 L.law_value.f L.law_value.fd ["state", "many"] (spVal K A) := ok_law_value L
  have G_Ref_init : FnOk P w K mg base CX0 1 L.Ref_init.f L.Ref_init.fd ["self", "number"] (spI1 A.Ref "number") := ok_Ref_init L
  have G_Parts_init : FnOk P w K mg base CX0 1 L.Parts_init.f L.Parts_init.fd ["self", "held"] (spHI A.Parts "held" K) := ok_Parts_init L
  have G_Cursor_init : FnOk P w K mg base CX0 1 L.Cursor_init.f L.Cursor_init.fd ["self", "rest"] (spHI A.Cursor "rest" K) := ok_Cursor_init L
  have G_Table_init : FnOk P w K mg base CX0 1 L.Table_init.f L.Table_init.fd ["self"] (spTI P w A) := ok_Table_init L
  have G_Instance_init : FnOk P w K mg base CX0 1 L.Instance_init.f L.Instance_init.fd ["self", "owner"] (spII A) := ok_Instance_init L
  have G_Kin_init : FnOk P w K mg base CX0 1 L.Kin_init.f L.Kin_init.fd ["self", "name", "parent"] (spKI A) := ok_Kin_init L
  have G_Closure_init : FnOk P w K mg base CX0 1 L.Closure_init.f L.Closure_init.fd ["self", "number", "wanted", "scope"] (spCI A) := ok_Closure_init L
  have G_Bound_init : FnOk P w K mg base CX0 1 L.Bound_init.f L.Bound_init.fd ["self", "owner", "function"] (spBI A) := ok_Bound_init L
  have G_Store_make : FnOk P w K mg base CX0 3 L.Store_make.f L.Store_make.fd ["self", "thing"] (spMake P w A) := ok_Store_make L
  have G_Table_put : FnOk P w K mg base CX0 2 L.Table_put.f L.Table_put.fd ["self", "key", "value"] (spTPut P w A) := ok_Table_put L
  refine L.law_fill.F.ok sc_law_fill (fun vs H Q E h => ?_) (fun cdv A' outer s H vs Q E hr h => ?_)
  · obtain ⟨a, p, ns, H7, sa, many, rfl, _⟩ := h
    rfl
  · obtain ⟨a, p, ns, H7, sa, many, rfl, I, m0, m1, q⟩ := h
    have nd := sc_law_fill.nd
    refine ⟨_, (pss_cons (ps_for PassesOwn.never rfl (pi_range2 (by rfl) L.z_range (pa_cons pe_int (pa_cons (pv 2) pa_nil))) (pg_name (i := 3) sc_law_fill.nd rfl (.inl rfl))
        (pss_cons (ps_set (i := 4) sc_law_fill.nd rfl (.inl rfl) (pe_call G_law_draw (hr.mono (by omega)) (by rfl) L.law_draw.g L.law_draw.F.kp L.law_draw.b .nil pass0 (pa_cons (pv 1) (pa_cons pe_int pa_nil))))
      (pss_cons (ps_set (i := 5) sc_law_fill.nd rfl (.inl rfl) (pe_make L.Parts_init.m G_Parts_init (hr.mono (by omega)) (by rfl) L.c_Parts.g L.Parts_init.b .nil pass0 (pa_cons (pe_lst pa_nil) pa_nil)))
      (pss_cut (ps_if (pt_cmpR op_in_seq (pv 4) (pe_tup (pa_cons pe_int (pa_cons pe_int pa_nil))) (by rfl))
        (pss_one (ps_set (i := 5) sc_law_fill.nd rfl (.inl rfl) (pe_make0 L.Table_init.m G_Table_init (hr.mono (by omega)) (by rfl) L.c_Table.g L.Table_init.b .nil pass0)))
        (pss_one (ps_if (pt_cmpR op_eq (pv 4) pe_int (nomark _))
        (pss_one (ps_set (i := 5) sc_law_fill.nd rfl (.inl rfl) (pe_make L.Instance_init.m G_Instance_init (hr.mono (by omega)) (by rfl) L.c_Instance.g L.Instance_init.b .nil pass0 (pa_cons (pe_make L.Ref_init.m G_Ref_init (hr.mono (by omega)) (by rfl) L.c_Ref.g L.Ref_init.b .nil pass0 (pa_cons pe_int pa_nil)) pa_nil))))
        (pss_one (ps_if (pt_cmpR op_eq (pv 4) pe_int (nomark _))
        (pss_one (ps_set (i := 5) sc_law_fill.nd rfl (.inl rfl) (pe_call G_law_pick (hr.mono (by omega)) (by rfl) L.law_pick.g L.law_pick.F.kp L.law_pick.b .nil pass0 (pa_cons (pv 1) (pa_cons (pe_tup (pa_cons (pe_make L.Closure_init.m G_Closure_init (hr.mono (by omega)) (by rfl) L.c_Closure.g L.Closure_init.b .nil pass0 (pa_cons pe_int (pa_cons pe_int (pa_cons (pe_tup pa_nil) pa_nil)))) (pa_cons (pe_make L.Bound_init.m G_Bound_init (hr.mono (by omega)) (by rfl) L.c_Bound.g L.Bound_init.b .nil pass0 (pa_cons (pe_make L.Ref_init.m G_Ref_init (hr.mono (by omega)) (by rfl) L.c_Ref.g L.Ref_init.b .nil pass0 (pa_cons pe_int pa_nil)) (pa_cons (pe_make L.Ref_init.m G_Ref_init (hr.mono (by omega)) (by rfl) L.c_Ref.g L.Ref_init.b .nil pass0 (pa_cons pe_int pa_nil)) pa_nil))) (pa_cons (pe_make L.Cursor_init.m G_Cursor_init (hr.mono (by omega)) (by rfl) L.c_Cursor.g L.Cursor_init.b .nil pass0 (pa_cons (pe_lst (pa_cons pe_int pa_nil)) pa_nil)) pa_nil)))) pa_nil)))))
        (pss_one (ps_if (pt_cmpR op_eq (pv 4) pe_int (nomark _))
        (pss_one (ps_set (i := 5) sc_law_fill.nd rfl (.inl rfl) (pe_make L.Kin_init.m G_Kin_init (hr.mono (by omega)) (by rfl) L.c_Kin.g L.Kin_init.b .nil pass0 (pa_cons (pe_op op_mul_str pe_str (pe_op op_add pe_int (pe_call G_law_draw (hr.mono (by omega)) (by rfl) L.law_draw.g L.law_draw.F.kp L.law_draw.b .nil pass0 (pa_cons (pv 1) (pa_cons pe_int pa_nil))))) (pa_cons pe_non pa_nil)))))
        pss_nil)))))))
      (pss_one (ps_if (pt_not (pt_cmpR (op_eqM L (hr.mono (by omega))) (pe_meth (pv 0) L.c_Store.cl L.Store_make.m G_Store_make (hr.mono (by omega)) L.Store_make.b .nil pass0 (pa_cons (pv 5) pa_nil)) (pe_make L.Ref_init.m G_Ref_init (hr.mono (by omega)) (by rfl) L.c_Ref.g L.Ref_init.b .nil pass0 (pa_cons (pv 3) pa_nil)) (nomark _)))
        (pss_one (ps_ret pe_bl))
        pss_nil))))))
      (pss_cons (ps_for PassesOwn.never rfl (pi_range2 (by rfl) L.z_range (pa_cons pe_int (pa_cons (pv 2) pa_nil))) (pg_name (i := 3) sc_law_fill.nd rfl (.inl rfl))
        (pss_cons (ps_set (i := 5) sc_law_fill.nd rfl (.inl rfl) (pe_ix ix_list (pe_fld (pv 0) rfl) (pv 3) (fun _ _ => rfl)))
      (pss_one (ps_for PassesOwn.never rfl (pi_range1 (by rfl) L.z_range (pa_cons (pe_call G_law_draw (hr.mono (by omega)) (by rfl) L.law_draw.g L.law_draw.F.kp L.law_draw.b .nil pass0 (pa_cons (pv 1) (pa_cons pe_int pa_nil))) pa_nil)) (pg_name (i := 6) sc_law_fill.nd rfl (.inl rfl))
        (pss_one (ps_if (pt_val (pe_callB call_isi (by rfl) L.z_isinstance (by decide +kernel) (pa_cons (pv 5) (pa_cons (pe_gc (v := .ref A.Parts) (by rfl) ⟨_, L.c_Parts.g, rfl⟩) pa_nil))))
        (pss_one (ps_expr (pe_bm PySem.F.plainAttrs_list PySem.F.slot_list_append PySem.F.type_list_append mt_append (pe_fld (pv 5) rfl) (pa_cons (pe_call G_law_value (hr.mono (by omega)) (by rfl) L.law_value.g L.law_value.F.kp L.law_value.b .nil pass0 (pa_cons (pv 1) (pa_cons (pv 2) pa_nil))) pa_nil))))
        (pss_one (ps_if (pt_val (pe_callB call_isi (by rfl) L.z_isinstance (by decide +kernel) (pa_cons (pv 5) (pa_cons (pe_gc (v := .ref A.Table) (by rfl) ⟨_, L.c_Table.g, rfl⟩) pa_nil))))
        (pss_one (ps_expr (pe_meth (pv 5) L.c_Table.cl L.Table_put.m G_Table_put (hr.mono (by omega)) L.Table_put.b .nil pass0 (pa_cons (pe_call G_law_pick (hr.mono (by omega)) (by rfl) L.law_pick.g L.law_pick.F.kp L.law_pick.b .nil pass0 (pa_cons (pv 1) (pa_cons (pe_tup (pa_cons pe_non (pa_cons pe_bl (pa_cons pe_int (pa_cons pe_int (pa_cons pe_str (pa_cons pe_str pa_nil))))))) pa_nil))) (pa_cons (pe_call G_law_value (hr.mono (by omega)) (by rfl) L.law_value.g L.law_value.F.kp L.law_value.b .nil pass0 (pa_cons (pv 1) (pa_cons (pv 2) pa_nil))) pa_nil)))))
        pss_nil))))))))
      (pss_one (ps_ret pe_bl)))), ?_⟩
    have Inst : ∀ {x dx C : Addr} {H : Hp}, H x = none → H dx = none → Same H (upd (upd H dx (.own x)) x (.ins C dx [])) := fun nx ndx => Same.made nx ndx fun _ _ e _ => e
    have emn : ((many : Int) - 1).toNat = many - 1 := by omega
    refine ⟨_, rfl, 1, (many : Int), rfl, ⟨by omega, by omega, by omega, by omega⟩, for_range (n := ((many : Int) - 1).toNat) (fun i σ H' => ∃ (y3 y4 y5 : Option V) (sa' : Sa) (S' : St), σ = [some (.ref sa.s), some (.ref p), some (.int (many : Nat)), y3, y4, y5, none] ∧ LI P w K A a p ns H7 H' sa' S' ∧ sa'.s = sa.s ∧ S'.things.length = 1 + i ∧ S'.things[0]? = some (.kin "Error" .non []) ∧ ∀ (n : Nat) t, S'.things[n]? = some t → newT t) ⟨none, none, none, sa, stO [], rfl, I, rfl, rfl, rfl, ?_⟩ ?_ ?_⟩
    · intro n t e
      match n, e with
      | 0, e => cases e; show (("Error" : Str)).length ≤ 1000; decide +kernel
      | n + 1, e => cases e
    · rintro i σ H1 hi ⟨y3, y4, y5, sa1, S1, rfl, I1, hs1, hl1, hk1, hn1⟩
      have e1i : (1 : Int) + (i : Nat) = ((1 + i : Nat) : Int) := by omega
      rw [e1i]
      refine ⟨_, rfl, a, p, ns, 9, rfl, I1.st, by decide, by decide, fun H2 r k2 st2 r0 r9 => ?_⟩
      have I2 := I1.draw k2 st2
      refine ⟨Nat.zero_le _, fun l nl => ?_⟩
      have sl := same_upd (o := .lst []) nl
      intro x dx nx ndx ndxx
      refine ⟨x, dx, l, [], rfl, upd_same, SqL.of (Inst nx ndx _ _ upd_same), fun H3 m k3 hx nm hm => ⟨rfl, ?_⟩⟩
      have s3 : Same H2 H3 := sl.trans (Same.made nx ndx k3)
      have I3 := I2.same s3
      have nx0 : H2 x = none := sl.free nx
      have nm0 : H2 m = none := sl.free ((Inst nx ndx).free nm)
      let M : List (Option V) → Hp → Prop := fun σ' H' => ∃ (x m : Addr) (t : Th), σ' = [some (.ref sa.s), some (.ref p), some (.int (many : Nat)), some (.int ((1 + i : Nat) : Int)), some (.int r), some (.ref x), none] ∧ LI P w K A a p ns H7 H' sa1 S1 ∧ ThAt P w A H' x m t ∧ newT t ∧ H2 x = none ∧ H2 m = none
      refine ⟨M, ?_, ?_⟩
      · refine ⟨_, rfl, by show 2 ≤ sizeLine; decide, fun T nT => ?_⟩
        have sT := same_upd (o := .tup [.int 4, .int 5]) nT
        have s4 := s3.trans sT
        have I4 := I3.same sT
        refine ⟨T, _, rfl, .inr (SqT.of upd_same), rfl, rfl, _, rfl, ite_or (fun _ => ?_) fun _ => ?_⟩
        · intro y dy ny ndy ndyy
          refine ⟨y, dy, rfl, upd_same, fun H5 d5 k5 n5 T5 => ⟨rfl, ?_⟩⟩
          have s5 := Same.made ny ndy k5
          exact ⟨y, d5, .table [], rfl, I4.same s5, ⟨[], T5, trivial, List.nodup_nil, Nat.zero_le _⟩, rfl, s4.free ny, s4.free ((Inst ny ndy).free n5)⟩
        refine ⟨_, rfl, rfl, _, rfl, ite_or (fun _ => ?_) fun _ => ?_⟩
        · intro y dy ny ndy ndyy
          refine ⟨y, dy, _, rfl, upd_same, fun H5 k5 hy => ⟨rfl, ?_⟩⟩
          have s5 := Same.made ny ndy k5
          intro z dz nz ndz ndzz
          refine ⟨z, dz, _, rfl, upd_same, fun H6 m6 k6 hz nm6 hm6 => ⟨rfl, ?_⟩⟩
          have s6 := Same.made nz ndz k6
          have s46 := s4.trans s5
          exact ⟨z, m6, .inst (.obj 0) [], rfl, I4.same (s5.trans s6), ⟨dz, _, [], hz, ⟨y, dy, rfl, s6 _ _ hy⟩, hm6, trivial⟩, rfl, s46.free nz, s46.free ((Inst nz ndz).free nm6)⟩
        refine ⟨_, rfl, rfl, _, rfl, ite_or (fun _ => ?_) fun _ => ?_⟩
        · refine ⟨_, rfl, ?_⟩
          refine ⟨Nat.zero_le _, fun T0 nT0 => ?_⟩
          have s50 := same_upd (o := .tup []) nT0
          intro y dy ny ndy ndyy
          refine ⟨y, dy, _, _, _, rfl, upd_same, fun H5 k5 hy => ⟨rfl, ?_⟩⟩
          have hdy := k5 dy (.own y) (by rw [upd_ne ndyy]; exact upd_same) ndyy
          have s5 := s50.trans (Same.made ny ndy k5)
          intro u1 du1 nu1 ndu1 ndu11
          refine ⟨u1, du1, _, rfl, upd_same, fun H6 k6 hu1 => ⟨rfl, ?_⟩⟩
          have s6 := s5.trans (Same.made nu1 ndu1 k6)
          intro u2 du2 nu2 ndu2 ndu22
          refine ⟨u2, du2, _, rfl, upd_same, fun H70 k70 hu2 => ⟨rfl, ?_⟩⟩
          have s70 := s6.trans (Same.made nu2 ndu2 k70)
          intro z dz nz ndz ndzz
          refine ⟨z, dz, _, _, rfl, upd_same, fun H8 k8 hz => ⟨rfl, ?_⟩⟩
          have hdz := k8 dz (.own z) (by rw [upd_ne ndzz]; exact upd_same) ndzz
          have s78 := Same.made nz ndz k8
          have s58 := ((Same.made nu1 ndu1 k6).trans (Same.made nu2 ndu2 k70)).trans s78
          have s8 := s70.trans s78
          refine ⟨by show 1 ≤ sizeLine; decide, fun l1 nl1 => ?_⟩
          have sl1 := same_upd (o := .lst [.int 1]) nl1
          intro c dc nc ndc ndcc
          refine ⟨c, dc, l1, [.int 1], rfl, upd_same, SqL.of (Inst nc ndc _ _ upd_same), fun H9 m9 k9 hc nm9 hm9 => ⟨rfl, ?_⟩⟩
          have s89 := sl1.trans (Same.made nc ndc k9)
          have s9 := s8.trans s89
          refine ⟨by show 3 ≤ sizeLine; decide, fun T2 nT2 => ?_⟩
          have s10 := same_upd (o := .tup [.ref y, .ref z, .ref c]) nT2
          have sA := s9.trans s10
          have I10 := I4.same sA
          refine ⟨a, p, T2, ns, _, rfl, I10.st, .inl (.inl upd_same), by show 0 < 3; decide, by show 3 ≤ 100; decide, fun Hb v hv kb stb => ?_⟩
          have Ib := I10.draw kb stb
          obtain ⟨xp, hp4⟩ := I4.hp
          have nep : ∀ b, upd H3 T (.tup [.int 4, .int 5]) b = none → b ≠ p := fun b n => (ne_of_none hp4 n).symm
          have fin : ∀ (x m : Addr) (t : Th), ThAt P w A (upd H9 T2 (.tup [.ref y, .ref z, .ref c])) x m t → newT t → upd H3 T (.tup [.int 4, .int 5]) x = none → upd H3 T (.tup [.int 4, .int 5]) m = none → M [some (.ref sa.s), some (.ref p), some (.int (many : Nat)), some (.int ((1 + i : Nat) : Int)), some (.int r), some (.ref x), none] Hb := fun x m t ht hnt nx nm =>
            ⟨x, m, t, rfl, Ib, ht.imp (Sv.vk (I10.sv kb)) (fun u e => kb _ _ e (nep _ nx)) (fun u e => kb _ _ e (nep _ nm)), hnt, s4.free nx, s4.free nm⟩
          simp only [List.mem_cons, List.not_mem_nil, or_false] at hv
          have s510 := (s58.trans s89).trans s10
          have s810 := s89.trans s10
          rcases hv with rfl | rfl | rfl
          · exact fin y dy .clo ⟨_, s510 _ _ hy, s510 _ _ hdy⟩ trivial (s50.free ny) (s50.free ndy)
          · exact fin z dz .bou ⟨_, s810 _ _ hz, s810 _ _ hdz⟩ trivial (s70.free nz) (s70.free ndz)
          · exact fin c m9 (.cursor [.int 1]) ⟨dc, [.int 1], s10 _ _ hc, s10 _ _ hm9, rfl, trivial⟩ trivial ((s8.trans sl1).free nc) ((s8.trans sl1).free ((Inst nc ndc).free nm9))
        refine ⟨_, rfl, rfl, _, rfl, ite_or (fun _ => ?_) fun _ => ?_⟩
        · refine ⟨_, rfl, a, p, ns, 2, rfl, I4.st, by decide, by decide, fun H5 r5 k5 st5 r50 r52 => ?_⟩
          obtain ⟨r', rfl⟩ : ∃ r' : Nat, r5 = (r' : Int) := ⟨r5.toNat, by omega⟩
          obtain ⟨ok1, ok2⟩ := shape_ok r' (by omega)
          refine ⟨_, _, rfl, rfl, "Shape", _, rfl, rfl, ok1, ?_⟩
          have I5 := I4.draw k5 st5
          obtain ⟨xp, hp4⟩ := I4.hp
          obtain ⟨xp5, hp5⟩ := I5.hp
          intro y dy ny ndy ndyy
          refine ⟨y, dy, _, _, rfl, upd_same, fun H6 m6 k6 hy nm6 hm6 => ⟨rfl, ?_⟩⟩
          have s6 := Same.made ny ndy k6
          have nm5 := (Inst ny ndy).free nm6
          exact ⟨y, m6, .kin (Txt.mul "Shape" (1 + (r' : Int))) .non [], rfl, I5.same s6, ⟨dy, .non, [], hy, rfl, hm6, trivial⟩, ok2, s4.free (keep_free k5 ⟨_, hp4⟩ ny (ne_of_none hp5 ny).symm), s4.free (keep_free k5 ⟨_, hp4⟩ nm5 (ne_of_none hp5 nm5).symm)⟩
        · exact ⟨x, m, .parts [], rfl, I4, ⟨dx, [], sT _ _ hx, sT _ _ hm, trivial⟩, rfl, nx0, nm0⟩
      rintro σ' H5 ⟨x', m', t, rfl, I5, ht, hnt, nx5, nm5⟩
      obtain ⟨g1, g2, g3⟩ := I2.grow L I5 nx5 nm5
      obtain ⟨dsx, hs5⟩ := I5.sm.s_
      refine ⟨_, rfl, sa1.s, dsx, _, by rw [hs1], hs5, st_no _ _ _ _ (by decide +kernel) (by decide +kernel) (by decide +kernel) (by decide +kernel), _, rfl, ?_⟩
      refine ⟨sa1, S1, x', m', t, by rw [hs1]; rfl, I5.sm, ht, g1, g2, by omega, fun H6 rr k6 sm6 nr6 hr6 => ?_⟩
      have I6 := g3 H6 _ k6 sm6
      refine ⟨_, rfl, ?_⟩
      intro u du nu ndu nduu
      refine ⟨u, du, _, rfl, upd_same, fun H8 k8 hu => ⟨rfl, ?_⟩⟩
      have s8 := Same.made nu ndu k8
      refine ⟨.obj S1.things.length, .obj (1 + i), hr6.sv (Same.sv s8), ⟨u, du, rfl, hu⟩, rfl, _, rfl, ?_⟩
      rw [hl1, decide_eq_true rfl]
      refine iteF ⟨_, _, _, _, _, rfl, I6.same s8, hs1, ?_, ?_, ?_⟩
      · show (S1.things ++ [t]).length = _
        rw [List.length_append, List.length_singleton]
        omega
      · show (S1.things ++ [t])[0]? = _
        rw [List.getElem?_append_left (by omega)]
        exact hk1
      · intro n t' e
        have e : (S1.things ++ [t])[n]? = some t' := e
        by_cases hn : n < S1.things.length
        · rw [List.getElem?_append_left hn] at e
          exact hn1 n t' e
        · have := List.mem_of_getElem? e
          rw [List.getElem?_append_right (by omega)] at e
          have := List.mem_of_getElem? e
          rw [List.mem_singleton] at this
          rw [this]
          exact hnt
    · rintro σ H1 ⟨y3, y4, y5, sa1, S1, rfl, I1, hs1, hl1, hk1, hn1⟩
      rw [emn] at hl1
      refine ⟨_, rfl, 1, (many : Int), rfl, ⟨by omega, by omega, by omega, by omega⟩, for_range (n := ((many : Int) - 1).toNat) (fun i σ H' => ∃ (y3 y4 y5 y6 : Option V) (S' : St), σ = [some (.ref sa.s), some (.ref p), some (.int (many : Nat)), y3, y4, y5, y6] ∧ LI P w K A a p ns H7 H' sa1 S' ∧ S'.things.length = many ∧ S'.things[0]? = some (.kin "Error" .non []) ∧ ∀ (n : Nat) t, S'.things[n]? = some t → goodT many (bnd i 0 n) t) ⟨_, _, _, none, S1, rfl, I1, by omega, hk1, fun n t e => (hn1 n t e).good⟩ ?_ ?_⟩
      · rintro i σ H2 hi ⟨y3, y4, y5, y6, S2, rfl, I2, hl2, hk2, hg2⟩
        have e1i : (1 : Int) + (i : Nat) = ((1 + i : Nat) : Int) := by omega
        rw [e1i]
        obtain ⟨dsx, hs2⟩ := I2.sm.s_
        have hi1 : 1 + i < many := by omega
        obtain ⟨t, ht⟩ : ∃ t, S2.things[1 + i]? = some t := ⟨_, List.getElem?_eq_getElem (by omega)⟩
        obtain ⟨x, m, hX, hM, hth⟩ := I2.sm.get ht
        have mm := List.mem_of_getElem? hM
        have gt : ∀ {H : Hp} {S : St} {t : Th}, SM P w A H sa1 S → S.things[1 + i]? = some t → ThAt P w A H x m t := fun h e => by
          obtain ⟨x', m', a1, a2, h'⟩ := h.get e
          rw [hX] at a1
          rw [hM] at a2
          cases a1
          cases a2
          exact h'
        refine ⟨_, rfl, sa1.s, A.Store, dsx, _, _, by rw [hs1], hs2, L.c_Store.cl, L.n_Store_things, st_things _ _ _ _, _, rfl, sa1.t, _, _, .ref x, rfl, rfl, SqL.of I2.sm.t_, atI_nat (by rw [List.getElem?_map, hX]; rfl), ?_⟩
        refine ⟨_, rfl, a, p, ns, 5, rfl, I2.st, by decide, by decide, fun H3 r k3 st3 r0 r5 => ?_⟩
        obtain ⟨r', rfl⟩ : ∃ r' : Nat, r = (r' : Int) := ⟨r.toNat, by omega⟩
        have I3 := I2.draw k3 st3
        refine ⟨_, rfl, by omega, by omega, for_range (n := r') (fun j σ H' => ∃ (y6 : Option V) (S' : St), σ = [some (.ref sa.s), some (.ref p), some (.int (many : Nat)), some (.int ((1 + i : Nat) : Int)), y4, some (.ref x), y6] ∧ LI P w K A a p ns H7 H' sa1 S' ∧ S'.things.length = many ∧ S'.things[0]? = some (.kin "Error" .non []) ∧ ∀ (n : Nat) t, S'.things[n]? = some t → goodT many (bnd i j n) t) ⟨y6, S2, rfl, I3, hl2, hk2, hg2⟩ ?_ ?_⟩
        · rintro j σ H4 hj ⟨y6, S4, rfl, I4, hl4, hk4, hg4⟩
          obtain ⟨t4, ht4⟩ : ∃ t, S4.things[1 + i]? = some t := ⟨_, List.getElem?_eq_getElem (by omega)⟩
          have hth4 := gt I4.sm ht4
          have g4 := hg4 _ _ ht4
          have eb : bnd i j (1 + i) = j := by unfold bnd; rw [if_neg (by omega), if_pos rfl]
          rw [eb] at g4
          refine ⟨_, rfl, _, .ref A.Parts, _, .ref A.Parts, _, rfl, .own _, th_ty L hth4, kit_P L t4, _, rfl, ite_or (fun e => ?_) fun e => ?_⟩
          · cases t4 with
            | parts ds =>
              obtain ⟨dxp, us, e5, e6, e7⟩ := id hth4
              refine ⟨_, rfl, x, A.Parts, dxp, _, .ref m, rfl, e5, L.c_Parts.cl, L.n_Parts_held, lk_hit, .inl ⟨rfl, _, SqL.of e6⟩, _, rfl, _, rfl, a, p, ns, many, rfl, I4.st, by omega, by omega, fun H5 v d k5 st5 hv okd => ?_⟩
              have I5 := I4.draw k5 st5
              obtain ⟨dxp5, us5, f5, f6, f7⟩ := gt I5.sm ht4
              have hul := f7.len
              have hdl : ds.length ≤ j := g4.1
              have nxm : x ≠ m := fun z => by rw [z, f6] at f5; cases f5
              refine ⟨m, us5, _, rfl, rfl, f6, Nat.lt_of_le_of_lt (m := 4) (by omega) (by decide), ?_⟩
              have kp : Keep m H5 (upd H5 m (.lst (us5 ++ [v]))) := keep_upd
              have vk : Vk A H5 _ := vk_part f6 nofun nofun kp
              have hs' := I5.sm.setK (d := .parts (ds ++ [d])) hX hM kp vk ⟨dxp5, _, kp _ _ f5 nxm, upd_same, Hs.app (f7.imp vk.v) (show Hs A _ [v] [d] from ⟨vk.v _ _ hv, trivial⟩)⟩
              obtain ⟨h0', hg'⟩ := good_set (S := S4) (many := many) (t' := .parts (ds ++ [d])) (by omega) hk4 hg4 ⟨by rw [List.length_append, List.length_singleton]; omega, fun d' hd' => by
                rcases List.mem_append.mp hd' with h | h
                · exact g4.2 d' h
                · rw [List.mem_singleton] at h; rw [h]; exact okd⟩
              exact ⟨_, _, rfl, I5.ev (ev_part mm kp) hs', by show (S4.things.set _ _).length = _; rw [List.length_set]; exact hl4, h0', hg'⟩
            | _ => cases e
          refine ⟨_, rfl, _, .ref A.Table, _, .ref A.Table, _, rfl, .own _, th_ty L hth4, kit_T L t4, _, rfl, ite_or (fun e2 => ?_) fun e2 => ?_⟩
          · cases t4 with
            | table es =>
              obtain ⟨ents, hT, hE, hnd, hle⟩ := id hth4
              obtain ⟨⟨dxt, hx1⟩, hdT, _⟩ := id hT
              refine ⟨_, rfl, x, dxt, _, rfl, hx1, tab_none (by decide +kernel), _, rfl, by show 6 ≤ sizeLine; decide, fun T nT => ?_⟩
              have sT := same_upd (o := .tup [.non, .bl true, .int 0, .int 1, .str "a", .str "\""]) nT
              have I5 := I4.same sT
              refine ⟨a, p, T, ns, _, rfl, I5.st, .inl (.inl upd_same), by show 0 < 6; decide, by show 6 ≤ 100; decide, fun H6 kv hkv k6 st6 => ?_⟩
              have I6 := I5.draw k6 st6
              obtain ⟨kd, rfl, hkd, okk⟩ : ∃ kd, kv = toV kd ∧ keyD kd = true ∧ okM many kd := by
                simp only [List.mem_cons, List.not_mem_nil, or_false] at hkv
                rcases hkv with rfl | rfl | rfl | rfl | rfl | rfl
                · exact ⟨.non, rfl, rfl, trivial⟩
                · exact ⟨.bl true, rfl, rfl, trivial⟩
                · exact ⟨.int 0, rfl, rfl, by show (0 : Int).natAbs.log2 < 1920; decide +kernel⟩
                · exact ⟨.int 1, rfl, rfl, by show (1 : Int).natAbs.log2 < 1920; decide +kernel⟩
                · exact ⟨.str "a", rfl, rfl, by show (("a" : Str)).length ≤ 6; decide +kernel⟩
                · exact ⟨.str "\"", rfl, rfl, by show (("\"" : Str)).length ≤ 6; decide +kernel⟩
              refine ⟨_, rfl, _, rfl, a, p, ns, many, rfl, I6.st, by omega, by omega, fun H7' v d k7' st7' hv okd => ?_⟩
              have I7 := I6.draw k7' st7'
              obtain ⟨ents7, hT7, hE7, hnd7, hle7⟩ := gt I7.sm ht4
              have hel7 := hE7.len
              have hdl : es.length ≤ j := g4.1
              refine ⟨x, m, ents7, toV kd, v, rfl, hT7, key_ok hkd, by omega, fun H8 b8 q8 k8 hT8 hq8 nq8 => ?_⟩
              have vk8 : Vk A H7' H8 := vk_part hT7.tab.at_ nofun nofun k8
              have hE8 := (hE7.imp vk8.v vk8.t).put (k := kd) (v := d) (b := b8) hkd hq8 (vk8.v _ _ hv)
              have pl := (putE_len (es := es) (k := kd) (v := d)).1
              have hs' := I7.sm.setK (d := .table (putE es kd d)) hX hM k8 vk8 ⟨_, hT8, hE8, putE_nd hnd, by omega⟩
              obtain ⟨h0', hg'⟩ := good_set (S := S4) (many := many) (t' := .table (putE es kd d)) (by omega) hk4 hg4 ⟨by omega, putE_good hkd okk okd g4.2⟩
              exact ⟨_, _, rfl, I7.ev (ev_part mm k8) hs', by show (S4.things.set _ _).length = _; rw [List.length_set]; exact hl4, h0', hg'⟩
            | _ => cases e2
          · refine ⟨_, S4, rfl, I4, hl4, hk4, fun n t e => (hg4 n t e).mono ?_⟩
            unfold bnd
            split
            · exact Nat.le_refl _
            · split
              · omega
              · exact Nat.le_refl _
        · rintro σ H4 ⟨y6, S4, rfl, I4, hl4, hk4, hg4⟩
          refine ⟨_, _, _, _, S4, rfl, I4, hl4, hk4, fun n t e => (hg4 n t e).mono ?_⟩
          unfold bnd
          split
          · rw [if_pos (by omega)]; exact Nat.le_refl _
          · split
            · rw [if_pos (by omega)]; omega
            · exact Nat.zero_le _
      · rintro σ H2 ⟨y3, y4, y5, y6, S2, rfl, I2, hl2, hk2, hg2⟩
        obtain ⟨g1, g2, g3⟩ := good_all m1 hl2 hk2 fun n t e => (hg2 n t e).mono (by
          have := (List.getElem?_eq_some_iff.mp e).1
          unfold bnd
          split
          · exact Nat.le_refl _
          · split <;> omega)
        exact q H2 sa1 S2 I2 hs1 hl2 g1 g2 g3
end
end My
namespace My
open PySem L2 SX XT XS XE XD XL
open C8 (pss_cut tCut cutS_slice pe_gc)
theorem cl_inj {x y : Str} (h : cl x = cl y) : x = y := by
  cases x with
  | mk a =>
    cases y with
    | mk b =>
      have : a = b := Array.toList_inj.mp h
      rw [this]
theorem headS_nat (m : Nat) (x : Str) : cutS x none (some ((m : Int) + 1)) = headS m x := rfl
theorem due_eq {S : St} {d : Dv} {m : Nat} {due : Str} (ag : Agr ((500 : Int) + 1).toNat (cl due) (fullW S 11 [] d)) (hm : m ≤ 400) : valS S m d = headS m due := by
  refine cl_inj ?_
  rw [valS_full, headS_list]
  exact ((ag.mono (k' := m + 1) (by omega)).symm)
theorem short_eq {S : St} {d : Dv} {due : Str} (ag : Agr ((500 : Int) + 1).toNat (cl due) (fullW S 11 [] d)) : shortS (valS S 100 d) = if due.length ≤ 100 then due else cutS due none (some 100) ++ ("..." : Str) := by
  rw [due_eq ag (by decide)]
  have hl : (headS 100 due).length = min 101 due.length := by
    rw [← cl_len, headS_list, List.length_take, cl_len]
  unfold shortS
  by_cases h : due.length ≤ 100
  · rw [if_pos h, if_pos (by omega)]
    refine cl_inj ?_
    rw [headS_list, List.take_of_length_le (by rw [cl_len]; omega)]
  · rw [if_neg h, if_neg (by omega)]
    have : cutS (headS 100 due) none (some 100) = cutS due none (some 100) := by
      refine cl_inj ?_
      have e : ∀ x : Str, cl (cutS x none (some 100)) = (cl x).take 100 := fun x => headS_list 99 x
      rw [e, e, headS_list, List.take_take]
      rfl
    rw [this]
section
variable {P : Program} {w : World} {K : PySem.W.Frag} {mg : Str → Option Value} {base : Heap} {A : Ads}
def spLaw (K : PySem.W.Frag) : Sp := fun vs H Q _ => ∃ (a : Addr) (ns : List Int), vs = [.ref a] ∧ SqL K H a (ns.map V.int) ∧ ns.length ≤ 63 ∧ ∀ H', Q (.bl true) H'
theorem ok_law {f : Addr} {fd : FuncData} (F : Fun K "law" "law" s_law f fd) (L : Lib P K mg A) : FnOk P w K mg base CX0 40 f fd ["script"] (spLaw K) := by
  have G_law_begin : FnOk P w K mg base CX0 1 L.law_begin.f L.law_begin.fd ["script", "k"] (spBegin K) := ok_law_begin L
  have G_law_draw : FnOk P w K mg base CX0 2 L.law_draw.f L.law_draw.fd ["state", "many"] (spDraw K) := ok_law_draw L
  have G_law_pick : FnOk P w K mg base CX0 3 L.law_pick.f L.law_pick.fd ["state", "row"] (spPick K) := ok_law_pick L
  have G_law_value : FnOk P w K mg base CX0 4 L.law_value.f L.law_value.fd ["state", "many"] (spVal K A) := ok_law_value L
  have G_law_fill : FnOk P w K mg base CX0 5 L.law_fill.f L.law_fill.fd ["store", "state", "many"] (spFill P w K A) := ok_law_fill L
  have G_Store_init : FnOk P w K mg base CX0 3 L.Store_init.f L.Store_init.fd ["self", "lines"] (spSI P w K A) := ok_Store_init L
  have G_law_form : FnOk P w K mg base CX0 14 L.law_form.f L.law_form.fd ["store", "value", "around", "room"] (spLF P w A 11) := ok_law_form L 11
  have G_write_value : FnOk P w K mg base CX0 37 L.write_value.f L.write_value.fd ["store", "value", "most"] (spWV P w A) := ok_write_value L
  have G_text_of : FnOk P w K mg base CX0 38 L.text_of.f L.text_of.fd ["store", "value", "most"] (spTO P w A) := ok_text_of L
  have G_show_ : FnOk P w K mg base CX0 38 L.show_.f L.show_.fd ["store", "value"] (spShow P w A) := ok_show L
  refine F.ok sc_law (fun vs H Q E h => ?_) (fun cdv A' outer s H vs Q E hr h => ?_)
  · obtain ⟨a, ns, rfl, _⟩ := h
    rfl
  · obtain ⟨a, ns, rfl, ha, hns, q⟩ := h
    have nd := sc_law.nd
    refine ⟨_, (pss_cons (ps_set (i := 1) sc_law.nd rfl (.inl rfl) (pe_call G_law_begin (hr.mono (by omega)) (by rfl) L.law_begin.g L.law_begin.F.kp L.law_begin.b .nil pass0 (pa_cons (pv 0) (pa_cons pe_int pa_nil))))
      (pss_cons (ps_set (i := 2) sc_law.nd rfl (.inl rfl) (pe_make L.Store_init.m G_Store_init (hr.mono (by omega)) (by rfl) L.c_Store.g L.Store_init.b .nil pass0 (pa_cons (pe_lst pa_nil) pa_nil)))
      (pss_cons (ps_set (i := 3) sc_law.nd rfl (.inl rfl) (pe_op op_add pe_int (pe_call G_law_draw (hr.mono (by omega)) (by rfl) L.law_draw.g L.law_draw.F.kp L.law_draw.b .nil pass0 (pa_cons (pv 1) (pa_cons pe_int pa_nil)))))
      (pss_cons (ps_if (pt_not (pt_val (pe_call G_law_fill (hr.mono (by omega)) (by rfl) L.law_fill.g L.law_fill.F.kp L.law_fill.b .nil pass0 (pa_cons (pv 2) (pa_cons (pv 1) (pa_cons (pv 3) pa_nil))))))
        (pss_one (ps_ret pe_bl))
        pss_nil)
      (pss_cons (ps_for PassesOwn.never rfl (pi_range1 (by rfl) L.z_range (pa_cons (pe_callB (call_min2 rfl) (by rfl) L.z_min (by decide +kernel) (pa_cons pe_int (pa_cons (pe_callB (call_max2 rfl) (by rfl) L.z_max (by decide +kernel) (pa_cons pe_int (pa_cons (pe_callB call_len_seq (by rfl) L.z_len PySem.boot_len (pa_cons (pv 0) pa_nil)) pa_nil))) pa_nil))) pa_nil)) (pg_name (i := 4) sc_law.nd rfl (.inl rfl))
        (pss_cons (ps_set (i := 5) sc_law.nd rfl (.inl rfl) (pe_call G_law_value (hr.mono (by omega)) (by rfl) L.law_value.g L.law_value.F.kp L.law_value.b .nil pass0 (pa_cons (pv 1) (pa_cons (pv 3) pa_nil))))
      (pss_cons (ps_set (i := 6) sc_law.nd rfl (.inl rfl) (pe_call G_law_pick (hr.mono (by omega)) (by rfl) L.law_pick.g L.law_pick.F.kp L.law_pick.b .nil pass0 (pa_cons (pv 1) (pa_cons (pe_tup (pa_cons pe_int (pa_cons pe_int (pa_cons pe_int (pa_cons pe_int (pa_cons pe_int (pa_cons pe_int (pa_cons pe_int (pa_cons (pe_call G_law_draw (hr.mono (by omega)) (by rfl) L.law_draw.g L.law_draw.F.kp L.law_draw.b .nil pass0 (pa_cons (pv 1) (pa_cons pe_int pa_nil))) pa_nil))))))))) pa_nil))))
      (pss_cons (ps_set (i := 7) sc_law.nd rfl (.inl rfl) (pe_call G_law_form (hr.mono (by omega)) (by rfl) L.law_form.g L.law_form.F.kp L.law_form.b .nil pass0 (pa_cons (pv 2) (pa_cons (pv 5) (pa_cons (pe_lst pa_nil) (pa_cons pe_int pa_nil))))))
      (pss_cons (ps_set (i := 8) sc_law.nd rfl (.inl rfl) (pe_call G_write_value (hr.mono (by omega)) (by rfl) L.write_value.g L.write_value.F.kp L.write_value.b .nil pass0 (pa_cons (pv 2) (pa_cons (pv 5) (pa_cons (pv 6) pa_nil)))))
      (pss_cons (ps_if (PW.pt (pw_or (pt_not (pt_val (pe_callB call_isi (by rfl) L.z_isinstance (by decide +kernel) (pa_cons (pv 8) (pa_cons (pe_bltn (v := .ty "str") (by rfl) L.z_str (by decide +kernel) rfl) pa_nil))))) (pw_or1 (pt_cmpR op_ne (pv 8) (pe_slice sl_str (pv 7) po_none (po_some (pe_op op_add (pv 6) pe_int))) (nomark _)))))
        (pss_one (ps_ret pe_bl))
        pss_nil)
      (pss_cons (ps_set (i := 8) sc_law.nd rfl (.inl rfl) (pe_call G_text_of (hr.mono (by omega)) (by rfl) L.text_of.g L.text_of.F.kp L.text_of.b .nil pass0 (pa_cons (pv 2) (pa_cons (pv 5) (pa_cons (pv 6) pa_nil)))))
      (pss_cut (ps_if (pt_val (pe_callB call_isi (by rfl) L.z_isinstance (by decide +kernel) (pa_cons (pv 5) (pa_cons (pe_bltn (v := .ty "str") (by rfl) L.z_str (by decide +kernel) rfl) pa_nil))))
        (pss_one (ps_if (pt_cmpR op_ne (pv 8) (pv 5) (nomark _))
        (pss_one (ps_ret pe_bl))
        pss_nil))
        (pss_one (ps_if (pt_cmpR op_ne (pv 8) (pe_slice sl_str (pv 7) po_none (po_some (pe_op op_add (pv 6) pe_int))) (nomark _))
        (pss_one (ps_ret pe_bl))
        pss_nil)))
      (pss_cons (ps_if (pt_cmpR op_gt (pe_callB call_len_str (by rfl) L.z_len PySem.boot_len (pa_cons (pv 7) pa_nil)) pe_int (nomark _))
        (pss_one (ps_set (i := 7) sc_law.nd rfl (.inl rfl) (pe_op op_add_str (pe_slice sl_str (pv 7) po_none (po_some pe_int)) pe_str)))
        pss_nil)
      (pss_one (ps_if (pt_cmpR op_ne (pe_call G_show_ (hr.mono (by omega)) (by rfl) L.show_.g L.show_.F.kp L.show_.b .nil pass0 (pa_cons (pv 2) (pa_cons (pv 5) pa_nil))) (pv 7) (nomark _))
        (pss_one (ps_ret pe_bl))
        pss_nil)))))))))))
      (pss_one (ps_ret (pe_cmpR op_eq (pe_callB call_len_seq (by rfl) L.z_len PySem.boot_len (pa_cons (pe_fld (pv 2) rfl) pa_nil)) (pv 3) (nomark _))))))))), ?_⟩
    refine ⟨_, rfl, a, ns, 0, rfl, ha, by omega, fun H1 p np s1 st1 => ?_⟩
    refine ⟨Nat.zero_le _, fun l nl b db nb ndb ndbb => ?_⟩
    have sm0 : Same H1 (upd (upd (upd H1 l (.lst [])) db (.own b)) b (.ins A.Store db [])) := fun c u e => by
      have e1 : upd H1 l (.lst []) c = some u := by rw [upd_ne (ne_of_none e nl)]; exact e
      rw [upd_ne (ne_of_none e1 nb), upd_ne (ne_of_none e1 ndb)]
      exact e1
    have nl' : ∀ c, upd H1 l (.lst []) c = none → c ≠ l := fun c e z => by rw [z, upd_same] at e; cases e
    have nb1 : H1 b = none := by have := nl' b nb; rw [upd_ne this] at nb; exact nb
    refine ⟨b, db, l, [], rfl, upd_same, SqL.of (by rw [upd_ne (nl' b nb).symm, upd_ne (nl' db ndb).symm]; exact upd_same), (nl' b nb).symm, fun H2 sa hsb k2 sm2 fr2 => ⟨rfl, ?_⟩⟩
    subst hsb
    have s2 : Same H1 H2 := fun c u e => k2 _ _ (sm0 _ _ e) fun z => by rw [z, nb1] at e; cases e
    have ownN : ∀ c, sa.own c → H1 c = none := fun c z => by
      rcases fr2 c z with rfl | q
      · exact nb1
      · exact sm0.free q
    have I2 : LI P w K A a p ns H1 H2 sa (stO []) := ⟨st1, My.Same.keep s2, st1.same s2, sm2, ownN⟩
    refine ⟨_, rfl, a, p, ns, 13, rfl, I2.st, by decide, by decide, fun H3 r k3 st3 r0 r13 => ?_⟩
    have I3 := I2.draw k3 st3
    obtain ⟨m, rfl⟩ : ∃ m : Nat, r = (m : Int) := ⟨r.toNat, by omega⟩
    have em : (2 : Int) + (m : Int) = ((m + 2 : Nat) : Int) := by omega
    refine ⟨_, _, rfl, rfl, ?_⟩
    refine ⟨_, rfl, _, rfl, _, rfl, a, p, ns, H1, sa, m + 2, by show [V.ref sa.s, V.ref p, V.int (2 + (m : Int))] = [V.ref sa.s, V.ref p, V.int ((m + 2 : Nat) : Int)]; rw [em], I3, by omega, by omega, fun H4 sa4 S4 I4 hs4 hl4 hw4 he4 hsm4 => ?_⟩
    refine ⟨_, rfl, iteF ?_⟩
    obtain ⟨xq, kq, _, _, hs5⟩ := I4.st
    have hz : ∀ n : Nat, n ≤ 1000000 → n ≤ sizeLine := fun n h => by rw [sizeLine_eq]; omega
    obtain ⟨N, hN, hN12⟩ : ∃ N : Nat, (if (if ((ns.map V.int).length : Int) > 3 then ((ns.map V.int).length : Int) else 3) < 12 then (if ((ns.map V.int).length : Int) > 3 then ((ns.map V.int).length : Int) else 3) else (12 : Int)) = (N : Int) ∧ N ≤ 12 := by
      refine ⟨min 12 (max 3 (ns.map V.int).length), ?_, Nat.min_le_left _ _⟩
      generalize (ns.map V.int).length = z
      split <;> split <;> omega
    refine ⟨_, rfl, a, _, rfl, .inl hs5, _, _, rfl, _, _, rfl, (N : Int), by show [V.int _] = [V.int _]; rw [hN], by omega, by omega, for_range (n := N) (fun i σ H' => ∃ (y4 y5 y6 y7 y8 : Option V), σ = [some (.ref a), some (.ref p), some (.ref sa4.s), some (.int ((m + 2 : Nat) : Int)), y4, y5, y6, y7, y8] ∧ LI P w K A a p ns H1 H' sa4 S4)
      ⟨none, none, none, none, none, by rw [← em, hs4]; rfl, I4⟩ ?_ ?_⟩
    · rintro i σ H5 hi ⟨y4, y5, y6, y7, y8, rfl, I5⟩
      rw [Int.zero_add]
      refine ⟨_, rfl, _, rfl, a, p, ns, m + 2, rfl, I5.st, by omega, by omega, fun H6 v d k6 st6 hv6 okd => ?_⟩
      have I6 := I5.draw k6 st6
      have ok : okW S4 d := okd.okW hl4
      refine ⟨_, rfl, _, rfl, a, p, ns, 60, rfl, I6.st, by decide, by decide, fun H7 r6 k7 st7 r60 r61 => ?_⟩
      obtain ⟨r', rfl⟩ : ∃ r' : Nat, r6 = (r' : Int) := ⟨r6.toNat, by omega⟩
      have I7 := I6.draw k7 st7
      refine ⟨by show 8 ≤ sizeLine; decide, fun T nT => ?_⟩
      have sT := same_upd (o := .tup [.int 0, .int 1, .int 5, .int 30, .int 100, .int 101, .int 400, .int (r' : Nat)]) nT
      have I8 := I7.same sT
      refine ⟨a, p, T, ns, _, rfl, I8.st, .inl (.inl upd_same), by show 0 < 8; decide, by show 8 ≤ 100; decide, fun H9 mv hmv k9 st9 => ?_⟩
      have I9 := I8.draw k9 st9
      have hv9 : Has A H9 v d := ((hv6.sv (I6.sv k7)).sv (Same.sv sT)).sv (I8.sv k9)
      obtain ⟨mo, rfl, hmo⟩ : ∃ mo : Nat, mv = .int (mo : Nat) ∧ mo ≤ 400 := by
        simp only [List.mem_cons, List.not_mem_nil, or_false] at hmv
        rcases hmv with rfl | rfl | rfl | rfl | rfl | rfl | rfl | rfl
        · exact ⟨0, rfl, by decide⟩
        · exact ⟨1, rfl, by decide⟩
        · exact ⟨5, rfl, by decide⟩
        · exact ⟨30, rfl, by decide⟩
        · exact ⟨100, rfl, by decide⟩
        · exact ⟨101, rfl, by decide⟩
        · exact ⟨400, rfl, by decide⟩
        · exact ⟨r', rfl, by omega⟩
      refine ⟨_, rfl, _, rfl, Nat.zero_le _, fun l nl => ?_⟩
      have sl := same_upd (o := .lst []) nl
      have I10 := I9.same sl
      refine ⟨sa4, S4, v, d, l, [], 500, rfl, I10.sm, hv9.sv (Same.sv sl), hw4, hsm4, ok, he4, upd_same, rfl, by decide, by decide, fun H11 due s11 ag hld _ => ?_⟩
      have I11 := I10.same s11
      have hv11 := (hv9.sv (Same.sv sl)).sv (Same.sv s11)
      refine ⟨_, rfl, _, rfl, _, rfl, sa4, S4, mo, v, d, rfl, I11.sm, hv11, hw4, pls hw4 mo, ok, by omega, fun H12 s12 => ?_⟩
      have I12 := I11.same s12
      have hv12 := hv11.sv (Same.sv s12)
      rw [due_eq ag hmo]
      refine ⟨_, rfl, _, .ty "str", _, .type "str", _, rfl, .ty _, .base (.str _), kit_ty (show kitB "str" "str" = some true by decide +kernel), _, rfl, iteF ?_⟩
      refine ⟨_, rfl, _, rfl, _, rfl, _, _, rfl, rfl, _, rfl, due, rfl, hz _ (by omega), rfl, _, rfl, ?_⟩
      rw [headS_nat, decide_eq_true rfl]
      refine iteF ?_
      refine ⟨_, rfl, _, rfl, _, rfl, sa4, S4, mo, v, d, rfl, I12.sm, hv12, hw4, pls hw4 mo, ok, by omega, fun H13 s13 => ?_⟩
      have I13 := I12.same s13
      have hv13 := hv12.sv (Same.sv s13)
      let M : List (Option V) → Hp → Prop := fun σ' H' => ∃ z8 : V, σ' = [some (.ref a), some (.ref p), some (.ref sa4.s), some (.int ((m + 2 : Nat) : Int)), some (.int (i : Nat)), some v, some (.int (mo : Nat)), some (.str due), some z8] ∧ H' = H13
      refine ⟨M, ⟨_, rfl, _, .ty "str", _, .type "str", _, rfl, .ty _, has_ty L hv13, kit_str L d, _, rfl, ite_or (fun e => ?_) fun e => ?_⟩, ?_⟩
      · cases d with
        | str x =>
          cases hv13
          exact ⟨_, rfl, _, rfl, rfl, _, rfl, by rw [decide_eq_true rfl]; exact iteF ⟨_, rfl, rfl⟩⟩
        | _ => cases e
      · cases d with
        | str x => cases e
        | _ =>
          refine ⟨_, rfl, _, rfl, _, rfl, _, _, rfl, rfl, _, rfl, due, rfl, hz _ (by omega), rfl, _, rfl, ?_⟩
          rw [headS_nat]
          show if (!decide (V.str (valS S4 mo _) = V.str (headS mo due))) = true then _ else _
          rw [due_eq ag hmo, decide_eq_true rfl]
          exact iteF ⟨_, rfl, rfl⟩
      rintro σ' H' ⟨z8, rfl, rfl⟩
      have l3 : (("..." : Str)).length = 3 := by decide +kernel
      have hse := short_eq ag
      have hcl := cutS_length due none (some 100)
      refine ⟨_, rfl, due, rfl, hz _ (by omega), _, _, rfl, rfl, _, rfl, ite_or (fun e => ?_) fun e => ?_⟩
      · have e : ¬ due.length ≤ 100 := by
          have e : decide ((100 : Int) < (due.length : Nat)) = true := e
          have := of_decide_eq_true e
          omega
        rw [if_neg e] at hse
        refine ⟨_, rfl, _, rfl, due, rfl, hz _ (by omega), _, _, rfl, rfl, hz _ (by rw [l3]; omega), ?_⟩
        refine ⟨_, rfl, _, rfl, sa4, S4, v, d, rfl, I13.sm, hv13, hw4, pls hw4 100, ok, fun H14 s14 => ⟨_, rfl, rfl, _, rfl, ?_⟩⟩
        rw [hse, decide_eq_true rfl]
        exact iteF ⟨_, _, _, _, _, rfl, I13.same s14⟩
      · have e : due.length ≤ 100 := by
          have e : decide ((100 : Int) < (due.length : Nat)) = false := e
          have := of_decide_eq_false e
          omega
        rw [if_pos e] at hse
        refine ⟨_, rfl, _, rfl, sa4, S4, v, d, rfl, I13.sm, hv13, hw4, pls hw4 100, ok, fun H14 s14 => ⟨_, rfl, rfl, _, rfl, ?_⟩⟩
        rw [hse, decide_eq_true rfl]
        exact iteF ⟨_, _, _, _, _, rfl, I13.same s14⟩
    · rintro σ H5 ⟨y4, y5, y6, y7, y8, rfl, I5⟩
      obtain ⟨dsx, hs5⟩ := I5.sm.s_
      refine ⟨_, rfl, sa4.s, A.Store, dsx, _, _, rfl, hs5, L.c_Store.cl, L.n_Store_things, st_things _ _ _ _, sa4.t, _, rfl, .inl (SqL.of I5.sm.t_), _, rfl, rfl, ?_⟩
      have : (sa4.X.map V.ref).length = m + 2 := by rw [List.length_map, I5.sm.lx, hl4]
      rw [this, decide_eq_true rfl]
      exact q _
end
end My
namespace My
open PySem L2 SX XT XS XE
set_option maxHeartbeats 0 in
theorem all_mk {l : PySem.W.OpenLaw} {w : World} {K : PySem.W.Frag} {h : Heap} {mg : Str → Option Value} {fa cRef cBuiltin cParts cTable cInstance cKin cClosure cBound cCursor cForm cStore a_quoted a_tagged a_write_value a_text_of a_show_ a_shortened a_write a_write_around a_write_held a_held_by a_plain_form a_law_cell a_law_begin a_law_draw a_law_pick a_law_value a_law_fill a_law_quoted a_law_plain a_law_form a_law a_Ref_init a_Ref_eq a_Builtin_init a_Builtin_eq a_Parts_init a_Table_init a_Table_has a_Table_put a_Table_pairs a_Table_many p_Table_many a_Instance_init a_Kin_init a_Closure_init a_Bound_init a_Cursor_init a_Form_init a_Form_add a_Form_is_enough a_Store_init a_Store_make a_Store_at : Addr} (X : K.In h) (G : h.Ns mainGlobals mg) (hfa : mg "law" = some (.ref fa))
    {odf_quoted anf_quoted odf_tagged anf_tagged odf_write_value anf_write_value odf_text_of anf_text_of odf_show_ anf_show_ odf_shortened anf_shortened odf_write anf_write odf_write_around anf_write_around odf_write_held anf_write_held odf_held_by anf_held_by odf_plain_form anf_plain_form odf_law_cell anf_law_cell odf_law_begin anf_law_begin odf_law_draw anf_law_draw odf_law_pick anf_law_pick odf_law_value anf_law_value odf_law_fill anf_law_fill odf_law_quoted anf_law_quoted odf_law_plain anf_law_plain odf_law_form anf_law_form odlaw anlaw odf_Ref_init anf_Ref_init odf_Ref_eq anf_Ref_eq odf_Builtin_init anf_Builtin_init odf_Builtin_eq anf_Builtin_eq odf_Parts_init anf_Parts_init odf_Table_init anf_Table_init odf_Table_has anf_Table_has odf_Table_put anf_Table_put odf_Table_pairs anf_Table_pairs odf_Table_many anf_Table_many odf_Instance_init anf_Instance_init odf_Kin_init anf_Kin_init odf_Closure_init anf_Closure_init odf_Bound_init anf_Bound_init odf_Cursor_init anf_Cursor_init odf_Form_init anf_Form_init odf_Form_add anf_Form_add odf_Form_is_enough anf_Form_is_enough odf_Store_init anf_Store_init odf_Store_make anf_Store_make odf_Store_at anf_Store_at : Option Addr}
    {slf_quoted slf_tagged slf_write_value slf_text_of slf_show_ slf_shortened slf_write slf_write_around slf_write_held slf_held_by slf_plain_form slf_law_cell slf_law_begin slf_law_draw slf_law_pick slf_law_value slf_law_fill slf_law_quoted slf_law_plain slf_law_form sllaw slf_Ref_init slf_Ref_eq slf_Builtin_init slf_Builtin_eq slf_Parts_init slf_Table_init slf_Table_has slf_Table_put slf_Table_pairs slf_Table_many slf_Instance_init slf_Kin_init slf_Closure_init slf_Bound_init slf_Cursor_init slf_Form_init slf_Form_add slf_Form_is_enough slf_Store_init slf_Store_make slf_Store_at : Array (Option Value)}
    {ocf_quoted kVf_quoted dcf_quoted pmf_quoted cdf_quoted ctf_quoted ocf_tagged kVf_tagged dcf_tagged pmf_tagged cdf_tagged ctf_tagged ocf_write_value kVf_write_value dcf_write_value pmf_write_value cdf_write_value ctf_write_value ocf_text_of kVf_text_of dcf_text_of pmf_text_of cdf_text_of ctf_text_of ocf_show_ kVf_show_ dcf_show_ pmf_show_ cdf_show_ ctf_show_ ocf_shortened kVf_shortened dcf_shortened pmf_shortened cdf_shortened ctf_shortened ocf_write kVf_write dcf_write pmf_write cdf_write ctf_write ocf_write_around kVf_write_around dcf_write_around pmf_write_around cdf_write_around ctf_write_around ocf_write_held kVf_write_held dcf_write_held pmf_write_held cdf_write_held ctf_write_held ocf_held_by kVf_held_by dcf_held_by pmf_held_by cdf_held_by ctf_held_by ocf_plain_form kVf_plain_form dcf_plain_form pmf_plain_form cdf_plain_form ctf_plain_form ocf_law_cell kVf_law_cell dcf_law_cell pmf_law_cell cdf_law_cell ctf_law_cell ocf_law_begin kVf_law_begin dcf_law_begin pmf_law_begin cdf_law_begin ctf_law_begin ocf_law_draw kVf_law_draw dcf_law_draw pmf_law_draw cdf_law_draw ctf_law_draw ocf_law_pick kVf_law_pick dcf_law_pick pmf_law_pick cdf_law_pick ctf_law_pick ocf_law_value kVf_law_value dcf_law_value pmf_law_value cdf_law_value ctf_law_value ocf_law_fill kVf_law_fill dcf_law_fill pmf_law_fill cdf_law_fill ctf_law_fill ocf_law_quoted kVf_law_quoted dcf_law_quoted pmf_law_quoted cdf_law_quoted ctf_law_quoted ocf_law_plain kVf_law_plain dcf_law_plain pmf_law_plain cdf_law_plain ctf_law_plain ocf_law_form kVf_law_form dcf_law_form pmf_law_form cdf_law_form ctf_law_form oclaw kVlaw dclaw pmlaw cdlaw ctlaw ocf_Ref_init kVf_Ref_init dcf_Ref_init pmf_Ref_init cdf_Ref_init ctf_Ref_init ocf_Ref_eq kVf_Ref_eq dcf_Ref_eq pmf_Ref_eq cdf_Ref_eq ctf_Ref_eq ocf_Builtin_init kVf_Builtin_init dcf_Builtin_init pmf_Builtin_init cdf_Builtin_init ctf_Builtin_init ocf_Builtin_eq kVf_Builtin_eq dcf_Builtin_eq pmf_Builtin_eq cdf_Builtin_eq ctf_Builtin_eq ocf_Parts_init kVf_Parts_init dcf_Parts_init pmf_Parts_init cdf_Parts_init ctf_Parts_init ocf_Table_init kVf_Table_init dcf_Table_init pmf_Table_init cdf_Table_init ctf_Table_init ocf_Table_has kVf_Table_has dcf_Table_has pmf_Table_has cdf_Table_has ctf_Table_has ocf_Table_put kVf_Table_put dcf_Table_put pmf_Table_put cdf_Table_put ctf_Table_put ocf_Table_pairs kVf_Table_pairs dcf_Table_pairs pmf_Table_pairs cdf_Table_pairs ctf_Table_pairs ocf_Table_many kVf_Table_many dcf_Table_many pmf_Table_many cdf_Table_many ctf_Table_many ocf_Instance_init kVf_Instance_init dcf_Instance_init pmf_Instance_init cdf_Instance_init ctf_Instance_init ocf_Kin_init kVf_Kin_init dcf_Kin_init pmf_Kin_init cdf_Kin_init ctf_Kin_init ocf_Closure_init kVf_Closure_init dcf_Closure_init pmf_Closure_init cdf_Closure_init ctf_Closure_init ocf_Bound_init kVf_Bound_init dcf_Bound_init pmf_Bound_init cdf_Bound_init ctf_Bound_init ocf_Cursor_init kVf_Cursor_init dcf_Cursor_init pmf_Cursor_init cdf_Cursor_init ctf_Cursor_init ocf_Form_init kVf_Form_init dcf_Form_init pmf_Form_init cdf_Form_init ctf_Form_init ocf_Form_add kVf_Form_add dcf_Form_add pmf_Form_add cdf_Form_add ctf_Form_add ocf_Form_is_enough kVf_Form_is_enough dcf_Form_is_enough pmf_Form_is_enough cdf_Form_is_enough ctf_Form_is_enough ocf_Store_init kVf_Store_init dcf_Store_init pmf_Store_init cdf_Store_init ctf_Store_init ocf_Store_make kVf_Store_make dcf_Store_make pmf_Store_make cdf_Store_make ctf_Store_make ocf_Store_at kVf_Store_at dcf_Store_at pmf_Store_at cdf_Store_at ctf_Store_at : Value}
    {rsf_Table_many : List Value}
    {tkMOST_SHOWN tkMOST_AROUND : Tok}
    (uRef : PySem.W.nsIn K mainGlobals "Ref" = some (some (.ref cRef)))
    (mkRef : PySem.W.makesIn K cRef = true)
    (kcRef : PySem.W.keepIn K (.ref cRef) = true)
    (pgRef : PySem.W.plainGet K cRef Str.empty = true)
    (hdRef : PySem.W.hasDictIn K cRef = true)
    (poRef : PySem.W.plainOver K cRef = true)
    (saRef : PySem.W.findIn K (.ref cRef) "__setattr__" = some (some (.builtin "object.__setattr__")))
    (nRef_number : PySem.W.findIn K (.ref cRef) "number" = some none)
    (hnTy : PySem.W.specialIn K (.builtin "object.__class__") "__get__" = some (some (.builtin "getset_descriptor.__get__")))
    (htTy : PySem.W.takesIn K (.builtin "object.__class__") = some true)
    (haRef : PySem.W.findIn K (.ref cRef) "__class__" = some (some (.builtin "object.__class__")))
    (hmRef : PySem.W.mroIn K cRef (.type "object") = some true)
    (uBuiltin : PySem.W.nsIn K mainGlobals "Builtin" = some (some (.ref cBuiltin)))
    (mkBuiltin : PySem.W.makesIn K cBuiltin = true)
    (kcBuiltin : PySem.W.keepIn K (.ref cBuiltin) = true)
    (pgBuiltin : PySem.W.plainGet K cBuiltin Str.empty = true)
    (hdBuiltin : PySem.W.hasDictIn K cBuiltin = true)
    (poBuiltin : PySem.W.plainOver K cBuiltin = true)
    (saBuiltin : PySem.W.findIn K (.ref cBuiltin) "__setattr__" = some (some (.builtin "object.__setattr__")))
    (nBuiltin_name : PySem.W.findIn K (.ref cBuiltin) "name" = some none)
    (haBuiltin : PySem.W.findIn K (.ref cBuiltin) "__class__" = some (some (.builtin "object.__class__")))
    (hmBuiltin : PySem.W.mroIn K cBuiltin (.type "object") = some true)
    (uParts : PySem.W.nsIn K mainGlobals "Parts" = some (some (.ref cParts)))
    (mkParts : PySem.W.makesIn K cParts = true)
    (kcParts : PySem.W.keepIn K (.ref cParts) = true)
    (pgParts : PySem.W.plainGet K cParts Str.empty = true)
    (hdParts : PySem.W.hasDictIn K cParts = true)
    (poParts : PySem.W.plainOver K cParts = true)
    (saParts : PySem.W.findIn K (.ref cParts) "__setattr__" = some (some (.builtin "object.__setattr__")))
    (nParts_held : PySem.W.findIn K (.ref cParts) "held" = some none)
    (haParts : PySem.W.findIn K (.ref cParts) "__class__" = some (some (.builtin "object.__class__")))
    (hmParts : PySem.W.mroIn K cParts (.type "object") = some true)
    (uTable : PySem.W.nsIn K mainGlobals "Table" = some (some (.ref cTable)))
    (mkTable : PySem.W.makesIn K cTable = true)
    (kcTable : PySem.W.keepIn K (.ref cTable) = true)
    (pgTable : PySem.W.plainGet K cTable Str.empty = true)
    (hdTable : PySem.W.hasDictIn K cTable = true)
    (poTable : PySem.W.plainOver K cTable = true)
    (saTable : PySem.W.findIn K (.ref cTable) "__setattr__" = some (some (.builtin "object.__setattr__")))
    (nTable__entries : PySem.W.findIn K (.ref cTable) "_entries" = some none)
    (haTable : PySem.W.findIn K (.ref cTable) "__class__" = some (some (.builtin "object.__class__")))
    (hmTable : PySem.W.mroIn K cTable (.type "object") = some true)
    (uInstance : PySem.W.nsIn K mainGlobals "Instance" = some (some (.ref cInstance)))
    (mkInstance : PySem.W.makesIn K cInstance = true)
    (kcInstance : PySem.W.keepIn K (.ref cInstance) = true)
    (pgInstance : PySem.W.plainGet K cInstance Str.empty = true)
    (hdInstance : PySem.W.hasDictIn K cInstance = true)
    (poInstance : PySem.W.plainOver K cInstance = true)
    (saInstance : PySem.W.findIn K (.ref cInstance) "__setattr__" = some (some (.builtin "object.__setattr__")))
    (nInstance_owner : PySem.W.findIn K (.ref cInstance) "owner" = some none)
    (nInstance_named : PySem.W.findIn K (.ref cInstance) "named" = some none)
    (haInstance : PySem.W.findIn K (.ref cInstance) "__class__" = some (some (.builtin "object.__class__")))
    (hmInstance : PySem.W.mroIn K cInstance (.type "object") = some true)
    (uKin : PySem.W.nsIn K mainGlobals "Kin" = some (some (.ref cKin)))
    (mkKin : PySem.W.makesIn K cKin = true)
    (kcKin : PySem.W.keepIn K (.ref cKin) = true)
    (pgKin : PySem.W.plainGet K cKin Str.empty = true)
    (hdKin : PySem.W.hasDictIn K cKin = true)
    (poKin : PySem.W.plainOver K cKin = true)
    (saKin : PySem.W.findIn K (.ref cKin) "__setattr__" = some (some (.builtin "object.__setattr__")))
    (nKin_name : PySem.W.findIn K (.ref cKin) "name" = some none)
    (nKin_parent : PySem.W.findIn K (.ref cKin) "parent" = some none)
    (nKin_methods : PySem.W.findIn K (.ref cKin) "methods" = some none)
    (haKin : PySem.W.findIn K (.ref cKin) "__class__" = some (some (.builtin "object.__class__")))
    (hmKin : PySem.W.mroIn K cKin (.type "object") = some true)
    (uClosure : PySem.W.nsIn K mainGlobals "Closure" = some (some (.ref cClosure)))
    (mkClosure : PySem.W.makesIn K cClosure = true)
    (kcClosure : PySem.W.keepIn K (.ref cClosure) = true)
    (pgClosure : PySem.W.plainGet K cClosure Str.empty = true)
    (hdClosure : PySem.W.hasDictIn K cClosure = true)
    (poClosure : PySem.W.plainOver K cClosure = true)
    (saClosure : PySem.W.findIn K (.ref cClosure) "__setattr__" = some (some (.builtin "object.__setattr__")))
    (nClosure_number : PySem.W.findIn K (.ref cClosure) "number" = some none)
    (nClosure_wanted : PySem.W.findIn K (.ref cClosure) "wanted" = some none)
    (nClosure_scope : PySem.W.findIn K (.ref cClosure) "scope" = some none)
    (haClosure : PySem.W.findIn K (.ref cClosure) "__class__" = some (some (.builtin "object.__class__")))
    (hmClosure : PySem.W.mroIn K cClosure (.type "object") = some true)
    (uBound : PySem.W.nsIn K mainGlobals "Bound" = some (some (.ref cBound)))
    (mkBound : PySem.W.makesIn K cBound = true)
    (kcBound : PySem.W.keepIn K (.ref cBound) = true)
    (pgBound : PySem.W.plainGet K cBound Str.empty = true)
    (hdBound : PySem.W.hasDictIn K cBound = true)
    (poBound : PySem.W.plainOver K cBound = true)
    (saBound : PySem.W.findIn K (.ref cBound) "__setattr__" = some (some (.builtin "object.__setattr__")))
    (nBound_owner : PySem.W.findIn K (.ref cBound) "owner" = some none)
    (nBound_function : PySem.W.findIn K (.ref cBound) "function" = some none)
    (haBound : PySem.W.findIn K (.ref cBound) "__class__" = some (some (.builtin "object.__class__")))
    (hmBound : PySem.W.mroIn K cBound (.type "object") = some true)
    (uCursor : PySem.W.nsIn K mainGlobals "Cursor" = some (some (.ref cCursor)))
    (mkCursor : PySem.W.makesIn K cCursor = true)
    (kcCursor : PySem.W.keepIn K (.ref cCursor) = true)
    (pgCursor : PySem.W.plainGet K cCursor Str.empty = true)
    (hdCursor : PySem.W.hasDictIn K cCursor = true)
    (poCursor : PySem.W.plainOver K cCursor = true)
    (saCursor : PySem.W.findIn K (.ref cCursor) "__setattr__" = some (some (.builtin "object.__setattr__")))
    (nCursor_rest : PySem.W.findIn K (.ref cCursor) "rest" = some none)
    (haCursor : PySem.W.findIn K (.ref cCursor) "__class__" = some (some (.builtin "object.__class__")))
    (hmCursor : PySem.W.mroIn K cCursor (.type "object") = some true)
    (uForm : PySem.W.nsIn K mainGlobals "Form" = some (some (.ref cForm)))
    (mkForm : PySem.W.makesIn K cForm = true)
    (kcForm : PySem.W.keepIn K (.ref cForm) = true)
    (pgForm : PySem.W.plainGet K cForm Str.empty = true)
    (hdForm : PySem.W.hasDictIn K cForm = true)
    (poForm : PySem.W.plainOver K cForm = true)
    (saForm : PySem.W.findIn K (.ref cForm) "__setattr__" = some (some (.builtin "object.__setattr__")))
    (nForm_store : PySem.W.findIn K (.ref cForm) "store" = some none)
    (nForm_most : PySem.W.findIn K (.ref cForm) "most" = some none)
    (nForm_pieces : PySem.W.findIn K (.ref cForm) "pieces" = some none)
    (nForm_size : PySem.W.findIn K (.ref cForm) "size" = some none)
    (nForm_around : PySem.W.findIn K (.ref cForm) "around" = some none)
    (haForm : PySem.W.findIn K (.ref cForm) "__class__" = some (some (.builtin "object.__class__")))
    (hmForm : PySem.W.mroIn K cForm (.type "object") = some true)
    (uStore : PySem.W.nsIn K mainGlobals "Store" = some (some (.ref cStore)))
    (mkStore : PySem.W.makesIn K cStore = true)
    (kcStore : PySem.W.keepIn K (.ref cStore) = true)
    (pgStore : PySem.W.plainGet K cStore Str.empty = true)
    (hdStore : PySem.W.hasDictIn K cStore = true)
    (poStore : PySem.W.plainOver K cStore = true)
    (saStore : PySem.W.findIn K (.ref cStore) "__setattr__" = some (some (.builtin "object.__setattr__")))
    (nStore_things : PySem.W.findIn K (.ref cStore) "things" = some none)
    (nStore_output : PySem.W.findIn K (.ref cStore) "output" = some none)
    (nStore_lines : PySem.W.findIn K (.ref cStore) "lines" = some none)
    (nStore_taken : PySem.W.findIn K (.ref cStore) "taken" = some none)
    (haStore : PySem.W.findIn K (.ref cStore) "__class__" = some (some (.builtin "object.__class__")))
    (hmStore : PySem.W.mroIn K cStore (.type "object") = some true)
    (af_quoted : PySem.W.nsIn K mainGlobals "quoted" = some (some (.ref a_quoted)))
    (lf_quoted : K.lookup a_quoted = some ⟨ocf_quoted, odf_quoted, .func (PySem.W.fnOf "quoted" "quoted" (defArgs s_quoted) (defBody s_quoted) (defScope s_quoted) .none kVf_quoted dcf_quoted pmf_quoted anf_quoted cdf_quoted ctf_quoted), slf_quoted⟩)
    (cf_quoted : PySem.W.codeIn K cdf_quoted "quoted" = true)
    (kf_quoted : PySem.W.keepIn K (.ref a_quoted) = true)
    (af_tagged : PySem.W.nsIn K mainGlobals "tagged" = some (some (.ref a_tagged)))
    (lf_tagged : K.lookup a_tagged = some ⟨ocf_tagged, odf_tagged, .func (PySem.W.fnOf "tagged" "tagged" (defArgs s_tagged) (defBody s_tagged) (defScope s_tagged) .none kVf_tagged dcf_tagged pmf_tagged anf_tagged cdf_tagged ctf_tagged), slf_tagged⟩)
    (cf_tagged : PySem.W.codeIn K cdf_tagged "tagged" = true)
    (kf_tagged : PySem.W.keepIn K (.ref a_tagged) = true)
    (af_write_value : PySem.W.nsIn K mainGlobals "write_value" = some (some (.ref a_write_value)))
    (lf_write_value : K.lookup a_write_value = some ⟨ocf_write_value, odf_write_value, .func (PySem.W.fnOf "write_value" "write_value" (defArgs s_write_value) (defBody s_write_value) (defScope s_write_value) .none kVf_write_value dcf_write_value pmf_write_value anf_write_value cdf_write_value ctf_write_value), slf_write_value⟩)
    (cf_write_value : PySem.W.codeIn K cdf_write_value "write_value" = true)
    (kf_write_value : PySem.W.keepIn K (.ref a_write_value) = true)
    (af_text_of : PySem.W.nsIn K mainGlobals "text_of" = some (some (.ref a_text_of)))
    (lf_text_of : K.lookup a_text_of = some ⟨ocf_text_of, odf_text_of, .func (PySem.W.fnOf "text_of" "text_of" (defArgs s_text_of) (defBody s_text_of) (defScope s_text_of) .none kVf_text_of dcf_text_of pmf_text_of anf_text_of cdf_text_of ctf_text_of), slf_text_of⟩)
    (cf_text_of : PySem.W.codeIn K cdf_text_of "text_of" = true)
    (kf_text_of : PySem.W.keepIn K (.ref a_text_of) = true)
    (af_show_ : PySem.W.nsIn K mainGlobals "show" = some (some (.ref a_show_)))
    (lf_show_ : K.lookup a_show_ = some ⟨ocf_show_, odf_show_, .func (PySem.W.fnOf "show" "show" (defArgs s_show_) (defBody s_show_) (defScope s_show_) .none kVf_show_ dcf_show_ pmf_show_ anf_show_ cdf_show_ ctf_show_), slf_show_⟩)
    (cf_show_ : PySem.W.codeIn K cdf_show_ "show" = true)
    (kf_show_ : PySem.W.keepIn K (.ref a_show_) = true)
    (af_shortened : PySem.W.nsIn K mainGlobals "shortened" = some (some (.ref a_shortened)))
    (lf_shortened : K.lookup a_shortened = some ⟨ocf_shortened, odf_shortened, .func (PySem.W.fnOf "shortened" "shortened" (defArgs s_shortened) (defBody s_shortened) (defScope s_shortened) .none kVf_shortened dcf_shortened pmf_shortened anf_shortened cdf_shortened ctf_shortened), slf_shortened⟩)
    (cf_shortened : PySem.W.codeIn K cdf_shortened "shortened" = true)
    (kf_shortened : PySem.W.keepIn K (.ref a_shortened) = true)
    (af_write : PySem.W.nsIn K mainGlobals "write" = some (some (.ref a_write)))
    (lf_write : K.lookup a_write = some ⟨ocf_write, odf_write, .func (PySem.W.fnOf "write" "write" (defArgs s_write) (defBody s_write) (defScope s_write) .none kVf_write dcf_write pmf_write anf_write cdf_write ctf_write), slf_write⟩)
    (cf_write : PySem.W.codeIn K cdf_write "write" = true)
    (kf_write : PySem.W.keepIn K (.ref a_write) = true)
    (af_write_around : PySem.W.nsIn K mainGlobals "write_around" = some (some (.ref a_write_around)))
    (lf_write_around : K.lookup a_write_around = some ⟨ocf_write_around, odf_write_around, .func (PySem.W.fnOf "write_around" "write_around" (defArgs s_write_around) (defBody s_write_around) (defScope s_write_around) .none kVf_write_around dcf_write_around pmf_write_around anf_write_around cdf_write_around ctf_write_around), slf_write_around⟩)
    (cf_write_around : PySem.W.codeIn K cdf_write_around "write_around" = true)
    (kf_write_around : PySem.W.keepIn K (.ref a_write_around) = true)
    (af_write_held : PySem.W.nsIn K mainGlobals "write_held" = some (some (.ref a_write_held)))
    (lf_write_held : K.lookup a_write_held = some ⟨ocf_write_held, odf_write_held, .func (PySem.W.fnOf "write_held" "write_held" (defArgs s_write_held) (defBody s_write_held) (defScope s_write_held) .none kVf_write_held dcf_write_held pmf_write_held anf_write_held cdf_write_held ctf_write_held), slf_write_held⟩)
    (cf_write_held : PySem.W.codeIn K cdf_write_held "write_held" = true)
    (kf_write_held : PySem.W.keepIn K (.ref a_write_held) = true)
    (af_held_by : PySem.W.nsIn K mainGlobals "held_by" = some (some (.ref a_held_by)))
    (lf_held_by : K.lookup a_held_by = some ⟨ocf_held_by, odf_held_by, .func (PySem.W.fnOf "held_by" "held_by" (defArgs s_held_by) (defBody s_held_by) (defScope s_held_by) .none kVf_held_by dcf_held_by pmf_held_by anf_held_by cdf_held_by ctf_held_by), slf_held_by⟩)
    (cf_held_by : PySem.W.codeIn K cdf_held_by "held_by" = true)
    (kf_held_by : PySem.W.keepIn K (.ref a_held_by) = true)
    (af_plain_form : PySem.W.nsIn K mainGlobals "plain_form" = some (some (.ref a_plain_form)))
    (lf_plain_form : K.lookup a_plain_form = some ⟨ocf_plain_form, odf_plain_form, .func (PySem.W.fnOf "plain_form" "plain_form" (defArgs s_plain_form) (defBody s_plain_form) (defScope s_plain_form) .none kVf_plain_form dcf_plain_form pmf_plain_form anf_plain_form cdf_plain_form ctf_plain_form), slf_plain_form⟩)
    (cf_plain_form : PySem.W.codeIn K cdf_plain_form "plain_form" = true)
    (kf_plain_form : PySem.W.keepIn K (.ref a_plain_form) = true)
    (af_law_cell : PySem.W.nsIn K mainGlobals "_law_cell" = some (some (.ref a_law_cell)))
    (lf_law_cell : K.lookup a_law_cell = some ⟨ocf_law_cell, odf_law_cell, .func (PySem.W.fnOf "_law_cell" "_law_cell" (defArgs s_law_cell) (defBody s_law_cell) (defScope s_law_cell) .none kVf_law_cell dcf_law_cell pmf_law_cell anf_law_cell cdf_law_cell ctf_law_cell), slf_law_cell⟩)
    (cf_law_cell : PySem.W.codeIn K cdf_law_cell "_law_cell" = true)
    (kf_law_cell : PySem.W.keepIn K (.ref a_law_cell) = true)
    (af_law_begin : PySem.W.nsIn K mainGlobals "_law_begin" = some (some (.ref a_law_begin)))
    (lf_law_begin : K.lookup a_law_begin = some ⟨ocf_law_begin, odf_law_begin, .func (PySem.W.fnOf "_law_begin" "_law_begin" (defArgs s_law_begin) (defBody s_law_begin) (defScope s_law_begin) .none kVf_law_begin dcf_law_begin pmf_law_begin anf_law_begin cdf_law_begin ctf_law_begin), slf_law_begin⟩)
    (cf_law_begin : PySem.W.codeIn K cdf_law_begin "_law_begin" = true)
    (kf_law_begin : PySem.W.keepIn K (.ref a_law_begin) = true)
    (af_law_draw : PySem.W.nsIn K mainGlobals "_law_draw" = some (some (.ref a_law_draw)))
    (lf_law_draw : K.lookup a_law_draw = some ⟨ocf_law_draw, odf_law_draw, .func (PySem.W.fnOf "_law_draw" "_law_draw" (defArgs s_law_draw) (defBody s_law_draw) (defScope s_law_draw) .none kVf_law_draw dcf_law_draw pmf_law_draw anf_law_draw cdf_law_draw ctf_law_draw), slf_law_draw⟩)
    (cf_law_draw : PySem.W.codeIn K cdf_law_draw "_law_draw" = true)
    (kf_law_draw : PySem.W.keepIn K (.ref a_law_draw) = true)
    (af_law_pick : PySem.W.nsIn K mainGlobals "_law_pick" = some (some (.ref a_law_pick)))
    (lf_law_pick : K.lookup a_law_pick = some ⟨ocf_law_pick, odf_law_pick, .func (PySem.W.fnOf "_law_pick" "_law_pick" (defArgs s_law_pick) (defBody s_law_pick) (defScope s_law_pick) .none kVf_law_pick dcf_law_pick pmf_law_pick anf_law_pick cdf_law_pick ctf_law_pick), slf_law_pick⟩)
    (cf_law_pick : PySem.W.codeIn K cdf_law_pick "_law_pick" = true)
    (kf_law_pick : PySem.W.keepIn K (.ref a_law_pick) = true)
    (af_law_value : PySem.W.nsIn K mainGlobals "_law_value" = some (some (.ref a_law_value)))
    (lf_law_value : K.lookup a_law_value = some ⟨ocf_law_value, odf_law_value, .func (PySem.W.fnOf "_law_value" "_law_value" (defArgs s_law_value) (defBody s_law_value) (defScope s_law_value) .none kVf_law_value dcf_law_value pmf_law_value anf_law_value cdf_law_value ctf_law_value), slf_law_value⟩)
    (cf_law_value : PySem.W.codeIn K cdf_law_value "_law_value" = true)
    (kf_law_value : PySem.W.keepIn K (.ref a_law_value) = true)
    (af_law_fill : PySem.W.nsIn K mainGlobals "_law_fill" = some (some (.ref a_law_fill)))
    (lf_law_fill : K.lookup a_law_fill = some ⟨ocf_law_fill, odf_law_fill, .func (PySem.W.fnOf "_law_fill" "_law_fill" (defArgs s_law_fill) (defBody s_law_fill) (defScope s_law_fill) .none kVf_law_fill dcf_law_fill pmf_law_fill anf_law_fill cdf_law_fill ctf_law_fill), slf_law_fill⟩)
    (cf_law_fill : PySem.W.codeIn K cdf_law_fill "_law_fill" = true)
    (kf_law_fill : PySem.W.keepIn K (.ref a_law_fill) = true)
    (af_law_quoted : PySem.W.nsIn K mainGlobals "_law_quoted" = some (some (.ref a_law_quoted)))
    (lf_law_quoted : K.lookup a_law_quoted = some ⟨ocf_law_quoted, odf_law_quoted, .func (PySem.W.fnOf "_law_quoted" "_law_quoted" (defArgs s_law_quoted) (defBody s_law_quoted) (defScope s_law_quoted) .none kVf_law_quoted dcf_law_quoted pmf_law_quoted anf_law_quoted cdf_law_quoted ctf_law_quoted), slf_law_quoted⟩)
    (cf_law_quoted : PySem.W.codeIn K cdf_law_quoted "_law_quoted" = true)
    (kf_law_quoted : PySem.W.keepIn K (.ref a_law_quoted) = true)
    (af_law_plain : PySem.W.nsIn K mainGlobals "_law_plain" = some (some (.ref a_law_plain)))
    (lf_law_plain : K.lookup a_law_plain = some ⟨ocf_law_plain, odf_law_plain, .func (PySem.W.fnOf "_law_plain" "_law_plain" (defArgs s_law_plain) (defBody s_law_plain) (defScope s_law_plain) .none kVf_law_plain dcf_law_plain pmf_law_plain anf_law_plain cdf_law_plain ctf_law_plain), slf_law_plain⟩)
    (cf_law_plain : PySem.W.codeIn K cdf_law_plain "_law_plain" = true)
    (kf_law_plain : PySem.W.keepIn K (.ref a_law_plain) = true)
    (af_law_form : PySem.W.nsIn K mainGlobals "_law_form" = some (some (.ref a_law_form)))
    (lf_law_form : K.lookup a_law_form = some ⟨ocf_law_form, odf_law_form, .func (PySem.W.fnOf "_law_form" "_law_form" (defArgs s_law_form) (defBody s_law_form) (defScope s_law_form) .none kVf_law_form dcf_law_form pmf_law_form anf_law_form cdf_law_form ctf_law_form), slf_law_form⟩)
    (cf_law_form : PySem.W.codeIn K cdf_law_form "_law_form" = true)
    (kf_law_form : PySem.W.keepIn K (.ref a_law_form) = true)
    (alaw : PySem.W.nsIn K mainGlobals "law" = some (some (.ref a_law)))
    (llaw : K.lookup a_law = some ⟨oclaw, odlaw, .func (PySem.W.fnOf "law" "law" (defArgs s_law) (defBody s_law) (defScope s_law) .none kVlaw dclaw pmlaw anlaw cdlaw ctlaw), sllaw⟩)
    (claw : PySem.W.codeIn K cdlaw "law" = true)
    (klaw : PySem.W.keepIn K (.ref a_law) = true)
    (af_Ref_init : PySem.W.findIn K (.ref cRef) "__init__" = some (some (.ref a_Ref_init)))
    (if_Ref_init : PySem.W.isFn K (.ref a_Ref_init) = true)
    (lf_Ref_init : K.lookup a_Ref_init = some ⟨ocf_Ref_init, odf_Ref_init, .func (PySem.W.fnOf "__init__" "Ref.__init__" (defArgs s_Ref_init) (defBody s_Ref_init) (defScope s_Ref_init) .none kVf_Ref_init dcf_Ref_init pmf_Ref_init anf_Ref_init cdf_Ref_init ctf_Ref_init), slf_Ref_init⟩)
    (cf_Ref_init : PySem.W.codeIn K cdf_Ref_init "Ref.__init__" = true)
    (kf_Ref_init : PySem.W.keepIn K (.ref a_Ref_init) = true)
    (af_Ref_eq : PySem.W.findIn K (.ref cRef) "__eq__" = some (some (.ref a_Ref_eq)))
    (if_Ref_eq : PySem.W.isFn K (.ref a_Ref_eq) = true)
    (lf_Ref_eq : K.lookup a_Ref_eq = some ⟨ocf_Ref_eq, odf_Ref_eq, .func (PySem.W.fnOf "__eq__" "Ref.__eq__" (defArgs s_Ref_eq) (defBody s_Ref_eq) (defScope s_Ref_eq) .none kVf_Ref_eq dcf_Ref_eq pmf_Ref_eq anf_Ref_eq cdf_Ref_eq ctf_Ref_eq), slf_Ref_eq⟩)
    (cf_Ref_eq : PySem.W.codeIn K cdf_Ref_eq "Ref.__eq__" = true)
    (kf_Ref_eq : PySem.W.keepIn K (.ref a_Ref_eq) = true)
    (af_Builtin_init : PySem.W.findIn K (.ref cBuiltin) "__init__" = some (some (.ref a_Builtin_init)))
    (if_Builtin_init : PySem.W.isFn K (.ref a_Builtin_init) = true)
    (lf_Builtin_init : K.lookup a_Builtin_init = some ⟨ocf_Builtin_init, odf_Builtin_init, .func (PySem.W.fnOf "__init__" "Builtin.__init__" (defArgs s_Builtin_init) (defBody s_Builtin_init) (defScope s_Builtin_init) .none kVf_Builtin_init dcf_Builtin_init pmf_Builtin_init anf_Builtin_init cdf_Builtin_init ctf_Builtin_init), slf_Builtin_init⟩)
    (cf_Builtin_init : PySem.W.codeIn K cdf_Builtin_init "Builtin.__init__" = true)
    (kf_Builtin_init : PySem.W.keepIn K (.ref a_Builtin_init) = true)
    (af_Builtin_eq : PySem.W.findIn K (.ref cBuiltin) "__eq__" = some (some (.ref a_Builtin_eq)))
    (if_Builtin_eq : PySem.W.isFn K (.ref a_Builtin_eq) = true)
    (lf_Builtin_eq : K.lookup a_Builtin_eq = some ⟨ocf_Builtin_eq, odf_Builtin_eq, .func (PySem.W.fnOf "__eq__" "Builtin.__eq__" (defArgs s_Builtin_eq) (defBody s_Builtin_eq) (defScope s_Builtin_eq) .none kVf_Builtin_eq dcf_Builtin_eq pmf_Builtin_eq anf_Builtin_eq cdf_Builtin_eq ctf_Builtin_eq), slf_Builtin_eq⟩)
    (cf_Builtin_eq : PySem.W.codeIn K cdf_Builtin_eq "Builtin.__eq__" = true)
    (kf_Builtin_eq : PySem.W.keepIn K (.ref a_Builtin_eq) = true)
    (af_Parts_init : PySem.W.findIn K (.ref cParts) "__init__" = some (some (.ref a_Parts_init)))
    (if_Parts_init : PySem.W.isFn K (.ref a_Parts_init) = true)
    (lf_Parts_init : K.lookup a_Parts_init = some ⟨ocf_Parts_init, odf_Parts_init, .func (PySem.W.fnOf "__init__" "Parts.__init__" (defArgs s_Parts_init) (defBody s_Parts_init) (defScope s_Parts_init) .none kVf_Parts_init dcf_Parts_init pmf_Parts_init anf_Parts_init cdf_Parts_init ctf_Parts_init), slf_Parts_init⟩)
    (cf_Parts_init : PySem.W.codeIn K cdf_Parts_init "Parts.__init__" = true)
    (kf_Parts_init : PySem.W.keepIn K (.ref a_Parts_init) = true)
    (af_Table_init : PySem.W.findIn K (.ref cTable) "__init__" = some (some (.ref a_Table_init)))
    (if_Table_init : PySem.W.isFn K (.ref a_Table_init) = true)
    (lf_Table_init : K.lookup a_Table_init = some ⟨ocf_Table_init, odf_Table_init, .func (PySem.W.fnOf "__init__" "Table.__init__" (defArgs s_Table_init) (defBody s_Table_init) (defScope s_Table_init) .none kVf_Table_init dcf_Table_init pmf_Table_init anf_Table_init cdf_Table_init ctf_Table_init), slf_Table_init⟩)
    (cf_Table_init : PySem.W.codeIn K cdf_Table_init "Table.__init__" = true)
    (kf_Table_init : PySem.W.keepIn K (.ref a_Table_init) = true)
    (af_Table_has : PySem.W.findIn K (.ref cTable) "has" = some (some (.ref a_Table_has)))
    (if_Table_has : PySem.W.isFn K (.ref a_Table_has) = true)
    (lf_Table_has : K.lookup a_Table_has = some ⟨ocf_Table_has, odf_Table_has, .func (PySem.W.fnOf "has" "Table.has" (defArgs s_Table_has) (defBody s_Table_has) (defScope s_Table_has) .none kVf_Table_has dcf_Table_has pmf_Table_has anf_Table_has cdf_Table_has ctf_Table_has), slf_Table_has⟩)
    (cf_Table_has : PySem.W.codeIn K cdf_Table_has "Table.has" = true)
    (kf_Table_has : PySem.W.keepIn K (.ref a_Table_has) = true)
    (af_Table_put : PySem.W.findIn K (.ref cTable) "put" = some (some (.ref a_Table_put)))
    (if_Table_put : PySem.W.isFn K (.ref a_Table_put) = true)
    (lf_Table_put : K.lookup a_Table_put = some ⟨ocf_Table_put, odf_Table_put, .func (PySem.W.fnOf "put" "Table.put" (defArgs s_Table_put) (defBody s_Table_put) (defScope s_Table_put) .none kVf_Table_put dcf_Table_put pmf_Table_put anf_Table_put cdf_Table_put ctf_Table_put), slf_Table_put⟩)
    (cf_Table_put : PySem.W.codeIn K cdf_Table_put "Table.put" = true)
    (kf_Table_put : PySem.W.keepIn K (.ref a_Table_put) = true)
    (af_Table_pairs : PySem.W.findIn K (.ref cTable) "pairs" = some (some (.ref a_Table_pairs)))
    (if_Table_pairs : PySem.W.isFn K (.ref a_Table_pairs) = true)
    (lf_Table_pairs : K.lookup a_Table_pairs = some ⟨ocf_Table_pairs, odf_Table_pairs, .func (PySem.W.fnOf "pairs" "Table.pairs" (defArgs s_Table_pairs) (defBody s_Table_pairs) (defScope s_Table_pairs) .none kVf_Table_pairs dcf_Table_pairs pmf_Table_pairs anf_Table_pairs cdf_Table_pairs ctf_Table_pairs), slf_Table_pairs⟩)
    (cf_Table_pairs : PySem.W.codeIn K cdf_Table_pairs "Table.pairs" = true)
    (kf_Table_pairs : PySem.W.keepIn K (.ref a_Table_pairs) = true)
    (af_Table_many : PySem.W.findIn K (.ref cTable) "many" = some (some (.ref p_Table_many)))
    (pgtf_Table_many : PySem.W.specialIn K (.ref p_Table_many) "__get__" = some (some (.builtin "property.__get__")))
    (ptkf_Table_many : PySem.W.takesIn K (.ref p_Table_many) = some true)
    (prcf_Table_many : PySem.W.recIn K p_Table_many "property" = some (.ref a_Table_many :: rsf_Table_many))
    (lf_Table_many : K.lookup a_Table_many = some ⟨ocf_Table_many, odf_Table_many, .func (PySem.W.fnOf "many" "Table.many" (defArgs s_Table_many) (defBody s_Table_many) (defScope s_Table_many) .none kVf_Table_many dcf_Table_many pmf_Table_many anf_Table_many cdf_Table_many ctf_Table_many), slf_Table_many⟩)
    (cf_Table_many : PySem.W.codeIn K cdf_Table_many "Table.many" = true)
    (kf_Table_many : PySem.W.keepIn K (.ref a_Table_many) = true)
    (af_Instance_init : PySem.W.findIn K (.ref cInstance) "__init__" = some (some (.ref a_Instance_init)))
    (if_Instance_init : PySem.W.isFn K (.ref a_Instance_init) = true)
    (lf_Instance_init : K.lookup a_Instance_init = some ⟨ocf_Instance_init, odf_Instance_init, .func (PySem.W.fnOf "__init__" "Instance.__init__" (defArgs s_Instance_init) (defBody s_Instance_init) (defScope s_Instance_init) .none kVf_Instance_init dcf_Instance_init pmf_Instance_init anf_Instance_init cdf_Instance_init ctf_Instance_init), slf_Instance_init⟩)
    (cf_Instance_init : PySem.W.codeIn K cdf_Instance_init "Instance.__init__" = true)
    (kf_Instance_init : PySem.W.keepIn K (.ref a_Instance_init) = true)
    (af_Kin_init : PySem.W.findIn K (.ref cKin) "__init__" = some (some (.ref a_Kin_init)))
    (if_Kin_init : PySem.W.isFn K (.ref a_Kin_init) = true)
    (lf_Kin_init : K.lookup a_Kin_init = some ⟨ocf_Kin_init, odf_Kin_init, .func (PySem.W.fnOf "__init__" "Kin.__init__" (defArgs s_Kin_init) (defBody s_Kin_init) (defScope s_Kin_init) .none kVf_Kin_init dcf_Kin_init pmf_Kin_init anf_Kin_init cdf_Kin_init ctf_Kin_init), slf_Kin_init⟩)
    (cf_Kin_init : PySem.W.codeIn K cdf_Kin_init "Kin.__init__" = true)
    (kf_Kin_init : PySem.W.keepIn K (.ref a_Kin_init) = true)
    (af_Closure_init : PySem.W.findIn K (.ref cClosure) "__init__" = some (some (.ref a_Closure_init)))
    (if_Closure_init : PySem.W.isFn K (.ref a_Closure_init) = true)
    (lf_Closure_init : K.lookup a_Closure_init = some ⟨ocf_Closure_init, odf_Closure_init, .func (PySem.W.fnOf "__init__" "Closure.__init__" (defArgs s_Closure_init) (defBody s_Closure_init) (defScope s_Closure_init) .none kVf_Closure_init dcf_Closure_init pmf_Closure_init anf_Closure_init cdf_Closure_init ctf_Closure_init), slf_Closure_init⟩)
    (cf_Closure_init : PySem.W.codeIn K cdf_Closure_init "Closure.__init__" = true)
    (kf_Closure_init : PySem.W.keepIn K (.ref a_Closure_init) = true)
    (af_Bound_init : PySem.W.findIn K (.ref cBound) "__init__" = some (some (.ref a_Bound_init)))
    (if_Bound_init : PySem.W.isFn K (.ref a_Bound_init) = true)
    (lf_Bound_init : K.lookup a_Bound_init = some ⟨ocf_Bound_init, odf_Bound_init, .func (PySem.W.fnOf "__init__" "Bound.__init__" (defArgs s_Bound_init) (defBody s_Bound_init) (defScope s_Bound_init) .none kVf_Bound_init dcf_Bound_init pmf_Bound_init anf_Bound_init cdf_Bound_init ctf_Bound_init), slf_Bound_init⟩)
    (cf_Bound_init : PySem.W.codeIn K cdf_Bound_init "Bound.__init__" = true)
    (kf_Bound_init : PySem.W.keepIn K (.ref a_Bound_init) = true)
    (af_Cursor_init : PySem.W.findIn K (.ref cCursor) "__init__" = some (some (.ref a_Cursor_init)))
    (if_Cursor_init : PySem.W.isFn K (.ref a_Cursor_init) = true)
    (lf_Cursor_init : K.lookup a_Cursor_init = some ⟨ocf_Cursor_init, odf_Cursor_init, .func (PySem.W.fnOf "__init__" "Cursor.__init__" (defArgs s_Cursor_init) (defBody s_Cursor_init) (defScope s_Cursor_init) .none kVf_Cursor_init dcf_Cursor_init pmf_Cursor_init anf_Cursor_init cdf_Cursor_init ctf_Cursor_init), slf_Cursor_init⟩)
    (cf_Cursor_init : PySem.W.codeIn K cdf_Cursor_init "Cursor.__init__" = true)
    (kf_Cursor_init : PySem.W.keepIn K (.ref a_Cursor_init) = true)
    (af_Form_init : PySem.W.findIn K (.ref cForm) "__init__" = some (some (.ref a_Form_init)))
    (if_Form_init : PySem.W.isFn K (.ref a_Form_init) = true)
    (lf_Form_init : K.lookup a_Form_init = some ⟨ocf_Form_init, odf_Form_init, .func (PySem.W.fnOf "__init__" "Form.__init__" (defArgs s_Form_init) (defBody s_Form_init) (defScope s_Form_init) .none kVf_Form_init dcf_Form_init pmf_Form_init anf_Form_init cdf_Form_init ctf_Form_init), slf_Form_init⟩)
    (cf_Form_init : PySem.W.codeIn K cdf_Form_init "Form.__init__" = true)
    (kf_Form_init : PySem.W.keepIn K (.ref a_Form_init) = true)
    (af_Form_add : PySem.W.findIn K (.ref cForm) "add" = some (some (.ref a_Form_add)))
    (if_Form_add : PySem.W.isFn K (.ref a_Form_add) = true)
    (lf_Form_add : K.lookup a_Form_add = some ⟨ocf_Form_add, odf_Form_add, .func (PySem.W.fnOf "add" "Form.add" (defArgs s_Form_add) (defBody s_Form_add) (defScope s_Form_add) .none kVf_Form_add dcf_Form_add pmf_Form_add anf_Form_add cdf_Form_add ctf_Form_add), slf_Form_add⟩)
    (cf_Form_add : PySem.W.codeIn K cdf_Form_add "Form.add" = true)
    (kf_Form_add : PySem.W.keepIn K (.ref a_Form_add) = true)
    (af_Form_is_enough : PySem.W.findIn K (.ref cForm) "is_enough" = some (some (.ref a_Form_is_enough)))
    (if_Form_is_enough : PySem.W.isFn K (.ref a_Form_is_enough) = true)
    (lf_Form_is_enough : K.lookup a_Form_is_enough = some ⟨ocf_Form_is_enough, odf_Form_is_enough, .func (PySem.W.fnOf "is_enough" "Form.is_enough" (defArgs s_Form_is_enough) (defBody s_Form_is_enough) (defScope s_Form_is_enough) .none kVf_Form_is_enough dcf_Form_is_enough pmf_Form_is_enough anf_Form_is_enough cdf_Form_is_enough ctf_Form_is_enough), slf_Form_is_enough⟩)
    (cf_Form_is_enough : PySem.W.codeIn K cdf_Form_is_enough "Form.is_enough" = true)
    (kf_Form_is_enough : PySem.W.keepIn K (.ref a_Form_is_enough) = true)
    (af_Store_init : PySem.W.findIn K (.ref cStore) "__init__" = some (some (.ref a_Store_init)))
    (if_Store_init : PySem.W.isFn K (.ref a_Store_init) = true)
    (lf_Store_init : K.lookup a_Store_init = some ⟨ocf_Store_init, odf_Store_init, .func (PySem.W.fnOf "__init__" "Store.__init__" (defArgs s_Store_init) (defBody s_Store_init) (defScope s_Store_init) .none kVf_Store_init dcf_Store_init pmf_Store_init anf_Store_init cdf_Store_init ctf_Store_init), slf_Store_init⟩)
    (cf_Store_init : PySem.W.codeIn K cdf_Store_init "Store.__init__" = true)
    (kf_Store_init : PySem.W.keepIn K (.ref a_Store_init) = true)
    (af_Store_make : PySem.W.findIn K (.ref cStore) "make" = some (some (.ref a_Store_make)))
    (if_Store_make : PySem.W.isFn K (.ref a_Store_make) = true)
    (lf_Store_make : K.lookup a_Store_make = some ⟨ocf_Store_make, odf_Store_make, .func (PySem.W.fnOf "make" "Store.make" (defArgs s_Store_make) (defBody s_Store_make) (defScope s_Store_make) .none kVf_Store_make dcf_Store_make pmf_Store_make anf_Store_make cdf_Store_make ctf_Store_make), slf_Store_make⟩)
    (cf_Store_make : PySem.W.codeIn K cdf_Store_make "Store.make" = true)
    (kf_Store_make : PySem.W.keepIn K (.ref a_Store_make) = true)
    (af_Store_at : PySem.W.findIn K (.ref cStore) "at" = some (some (.ref a_Store_at)))
    (if_Store_at : PySem.W.isFn K (.ref a_Store_at) = true)
    (lf_Store_at : K.lookup a_Store_at = some ⟨ocf_Store_at, odf_Store_at, .func (PySem.W.fnOf "at" "Store.at" (defArgs s_Store_at) (defBody s_Store_at) (defScope s_Store_at) .none kVf_Store_at dcf_Store_at pmf_Store_at anf_Store_at cdf_Store_at ctf_Store_at), slf_Store_at⟩)
    (cf_Store_at : PySem.W.codeIn K cdf_Store_at "Store.at" = true)
    (kf_Store_at : PySem.W.keepIn K (.ref a_Store_at) = true)
    (qMOST_SHOWN : PySem.W.nsIn K mainGlobals "MOST_SHOWN" = some (some (.int 100 tkMOST_SHOWN)))
    (qMOST_AROUND : PySem.W.nsIn K mainGlobals "MOST_AROUND" = some (some (.int 10 tkMOST_AROUND)))
    (k_Ref_Parts : PySem.W.kitOne K (.ref cRef) (.ref cParts) = some false)
    (k_Ref_Table : PySem.W.kitOne K (.ref cRef) (.ref cTable) = some false)
    (k_Ref_Instance : PySem.W.kitOne K (.ref cRef) (.ref cInstance) = some false)
    (k_Ref_Kin : PySem.W.kitOne K (.ref cRef) (.ref cKin) = some false)
    (k_Ref_Builtin : PySem.W.kitOne K (.ref cRef) (.ref cBuiltin) = some false)
    (k_Ref_str : PySem.W.kitOne K (.ref cRef) (.type "str") = some false)
    (k_Ref_bool : PySem.W.kitOne K (.ref cRef) (.type "bool") = some false)
    (k_Ref_int : PySem.W.kitOne K (.ref cRef) (.type "int") = some false)
    (k_Builtin_Parts : PySem.W.kitOne K (.ref cBuiltin) (.ref cParts) = some false)
    (k_Builtin_Table : PySem.W.kitOne K (.ref cBuiltin) (.ref cTable) = some false)
    (k_Builtin_Instance : PySem.W.kitOne K (.ref cBuiltin) (.ref cInstance) = some false)
    (k_Builtin_Kin : PySem.W.kitOne K (.ref cBuiltin) (.ref cKin) = some false)
    (k_Builtin_Ref : PySem.W.kitOne K (.ref cBuiltin) (.ref cRef) = some false)
    (k_Builtin_str : PySem.W.kitOne K (.ref cBuiltin) (.type "str") = some false)
    (k_Builtin_bool : PySem.W.kitOne K (.ref cBuiltin) (.type "bool") = some false)
    (k_Builtin_int : PySem.W.kitOne K (.ref cBuiltin) (.type "int") = some false)
    (k_Parts_Table : PySem.W.kitOne K (.ref cParts) (.ref cTable) = some false)
    (k_Parts_Instance : PySem.W.kitOne K (.ref cParts) (.ref cInstance) = some false)
    (k_Parts_Kin : PySem.W.kitOne K (.ref cParts) (.ref cKin) = some false)
    (k_Parts_Builtin : PySem.W.kitOne K (.ref cParts) (.ref cBuiltin) = some false)
    (k_Parts_Ref : PySem.W.kitOne K (.ref cParts) (.ref cRef) = some false)
    (k_Parts_str : PySem.W.kitOne K (.ref cParts) (.type "str") = some false)
    (k_Parts_bool : PySem.W.kitOne K (.ref cParts) (.type "bool") = some false)
    (k_Parts_int : PySem.W.kitOne K (.ref cParts) (.type "int") = some false)
    (k_Table_Parts : PySem.W.kitOne K (.ref cTable) (.ref cParts) = some false)
    (k_Table_Instance : PySem.W.kitOne K (.ref cTable) (.ref cInstance) = some false)
    (k_Table_Kin : PySem.W.kitOne K (.ref cTable) (.ref cKin) = some false)
    (k_Table_Builtin : PySem.W.kitOne K (.ref cTable) (.ref cBuiltin) = some false)
    (k_Table_Ref : PySem.W.kitOne K (.ref cTable) (.ref cRef) = some false)
    (k_Table_str : PySem.W.kitOne K (.ref cTable) (.type "str") = some false)
    (k_Table_bool : PySem.W.kitOne K (.ref cTable) (.type "bool") = some false)
    (k_Table_int : PySem.W.kitOne K (.ref cTable) (.type "int") = some false)
    (k_Instance_Parts : PySem.W.kitOne K (.ref cInstance) (.ref cParts) = some false)
    (k_Instance_Table : PySem.W.kitOne K (.ref cInstance) (.ref cTable) = some false)
    (k_Instance_Kin : PySem.W.kitOne K (.ref cInstance) (.ref cKin) = some false)
    (k_Instance_Builtin : PySem.W.kitOne K (.ref cInstance) (.ref cBuiltin) = some false)
    (k_Instance_Ref : PySem.W.kitOne K (.ref cInstance) (.ref cRef) = some false)
    (k_Instance_str : PySem.W.kitOne K (.ref cInstance) (.type "str") = some false)
    (k_Instance_bool : PySem.W.kitOne K (.ref cInstance) (.type "bool") = some false)
    (k_Instance_int : PySem.W.kitOne K (.ref cInstance) (.type "int") = some false)
    (k_Kin_Parts : PySem.W.kitOne K (.ref cKin) (.ref cParts) = some false)
    (k_Kin_Table : PySem.W.kitOne K (.ref cKin) (.ref cTable) = some false)
    (k_Kin_Instance : PySem.W.kitOne K (.ref cKin) (.ref cInstance) = some false)
    (k_Kin_Builtin : PySem.W.kitOne K (.ref cKin) (.ref cBuiltin) = some false)
    (k_Kin_Ref : PySem.W.kitOne K (.ref cKin) (.ref cRef) = some false)
    (k_Kin_str : PySem.W.kitOne K (.ref cKin) (.type "str") = some false)
    (k_Kin_bool : PySem.W.kitOne K (.ref cKin) (.type "bool") = some false)
    (k_Kin_int : PySem.W.kitOne K (.ref cKin) (.type "int") = some false)
    (k_Closure_Parts : PySem.W.kitOne K (.ref cClosure) (.ref cParts) = some false)
    (k_Closure_Table : PySem.W.kitOne K (.ref cClosure) (.ref cTable) = some false)
    (k_Closure_Instance : PySem.W.kitOne K (.ref cClosure) (.ref cInstance) = some false)
    (k_Closure_Kin : PySem.W.kitOne K (.ref cClosure) (.ref cKin) = some false)
    (k_Closure_Builtin : PySem.W.kitOne K (.ref cClosure) (.ref cBuiltin) = some false)
    (k_Closure_Ref : PySem.W.kitOne K (.ref cClosure) (.ref cRef) = some false)
    (k_Closure_str : PySem.W.kitOne K (.ref cClosure) (.type "str") = some false)
    (k_Closure_bool : PySem.W.kitOne K (.ref cClosure) (.type "bool") = some false)
    (k_Closure_int : PySem.W.kitOne K (.ref cClosure) (.type "int") = some false)
    (k_Bound_Parts : PySem.W.kitOne K (.ref cBound) (.ref cParts) = some false)
    (k_Bound_Table : PySem.W.kitOne K (.ref cBound) (.ref cTable) = some false)
    (k_Bound_Instance : PySem.W.kitOne K (.ref cBound) (.ref cInstance) = some false)
    (k_Bound_Kin : PySem.W.kitOne K (.ref cBound) (.ref cKin) = some false)
    (k_Bound_Builtin : PySem.W.kitOne K (.ref cBound) (.ref cBuiltin) = some false)
    (k_Bound_Ref : PySem.W.kitOne K (.ref cBound) (.ref cRef) = some false)
    (k_Bound_str : PySem.W.kitOne K (.ref cBound) (.type "str") = some false)
    (k_Bound_bool : PySem.W.kitOne K (.ref cBound) (.type "bool") = some false)
    (k_Bound_int : PySem.W.kitOne K (.ref cBound) (.type "int") = some false)
    (k_Cursor_Parts : PySem.W.kitOne K (.ref cCursor) (.ref cParts) = some false)
    (k_Cursor_Table : PySem.W.kitOne K (.ref cCursor) (.ref cTable) = some false)
    (k_Cursor_Instance : PySem.W.kitOne K (.ref cCursor) (.ref cInstance) = some false)
    (k_Cursor_Kin : PySem.W.kitOne K (.ref cCursor) (.ref cKin) = some false)
    (k_Cursor_Builtin : PySem.W.kitOne K (.ref cCursor) (.ref cBuiltin) = some false)
    (k_Cursor_Ref : PySem.W.kitOne K (.ref cCursor) (.ref cRef) = some false)
    (k_Cursor_str : PySem.W.kitOne K (.ref cCursor) (.type "str") = some false)
    (k_Cursor_bool : PySem.W.kitOne K (.ref cCursor) (.type "bool") = some false)
    (k_Cursor_int : PySem.W.kitOne K (.ref cCursor) (.type "int") = some false)
    (k_Form_Parts : PySem.W.kitOne K (.ref cForm) (.ref cParts) = some false)
    (k_Form_Table : PySem.W.kitOne K (.ref cForm) (.ref cTable) = some false)
    (k_Form_Instance : PySem.W.kitOne K (.ref cForm) (.ref cInstance) = some false)
    (k_Form_Kin : PySem.W.kitOne K (.ref cForm) (.ref cKin) = some false)
    (k_Form_Builtin : PySem.W.kitOne K (.ref cForm) (.ref cBuiltin) = some false)
    (k_Form_Ref : PySem.W.kitOne K (.ref cForm) (.ref cRef) = some false)
    (k_Form_str : PySem.W.kitOne K (.ref cForm) (.type "str") = some false)
    (k_Form_bool : PySem.W.kitOne K (.ref cForm) (.type "bool") = some false)
    (k_Form_int : PySem.W.kitOne K (.ref cForm) (.type "int") = some false)
    (k_Store_Parts : PySem.W.kitOne K (.ref cStore) (.ref cParts) = some false)
    (k_Store_Table : PySem.W.kitOne K (.ref cStore) (.ref cTable) = some false)
    (k_Store_Instance : PySem.W.kitOne K (.ref cStore) (.ref cInstance) = some false)
    (k_Store_Kin : PySem.W.kitOne K (.ref cStore) (.ref cKin) = some false)
    (k_Store_Builtin : PySem.W.kitOne K (.ref cStore) (.ref cBuiltin) = some false)
    (k_Store_Ref : PySem.W.kitOne K (.ref cStore) (.ref cRef) = some false)
    (k_Store_str : PySem.W.kitOne K (.ref cStore) (.type "str") = some false)
    (k_Store_bool : PySem.W.kitOne K (.ref cStore) (.type "bool") = some false)
    (k_Store_int : PySem.W.kitOne K (.ref cStore) (.type "int") = some false)
    (k_NoneType_Parts : PySem.W.kitOne K (.type "NoneType") (.ref cParts) = some false)
    (k_NoneType_Table : PySem.W.kitOne K (.type "NoneType") (.ref cTable) = some false)
    (k_NoneType_Instance : PySem.W.kitOne K (.type "NoneType") (.ref cInstance) = some false)
    (k_NoneType_Kin : PySem.W.kitOne K (.type "NoneType") (.ref cKin) = some false)
    (k_NoneType_Builtin : PySem.W.kitOne K (.type "NoneType") (.ref cBuiltin) = some false)
    (k_NoneType_Ref : PySem.W.kitOne K (.type "NoneType") (.ref cRef) = some false)
    (k_bool_Parts : PySem.W.kitOne K (.type "bool") (.ref cParts) = some false)
    (k_bool_Table : PySem.W.kitOne K (.type "bool") (.ref cTable) = some false)
    (k_bool_Instance : PySem.W.kitOne K (.type "bool") (.ref cInstance) = some false)
    (k_bool_Kin : PySem.W.kitOne K (.type "bool") (.ref cKin) = some false)
    (k_bool_Builtin : PySem.W.kitOne K (.type "bool") (.ref cBuiltin) = some false)
    (k_bool_Ref : PySem.W.kitOne K (.type "bool") (.ref cRef) = some false)
    (k_int_Parts : PySem.W.kitOne K (.type "int") (.ref cParts) = some false)
    (k_int_Table : PySem.W.kitOne K (.type "int") (.ref cTable) = some false)
    (k_int_Instance : PySem.W.kitOne K (.type "int") (.ref cInstance) = some false)
    (k_int_Kin : PySem.W.kitOne K (.type "int") (.ref cKin) = some false)
    (k_int_Builtin : PySem.W.kitOne K (.type "int") (.ref cBuiltin) = some false)
    (k_int_Ref : PySem.W.kitOne K (.type "int") (.ref cRef) = some false)
    (k_str_Parts : PySem.W.kitOne K (.type "str") (.ref cParts) = some false)
    (k_str_Table : PySem.W.kitOne K (.type "str") (.ref cTable) = some false)
    (k_str_Instance : PySem.W.kitOne K (.type "str") (.ref cInstance) = some false)
    (k_str_Kin : PySem.W.kitOne K (.type "str") (.ref cKin) = some false)
    (k_str_Builtin : PySem.W.kitOne K (.type "str") (.ref cBuiltin) = some false)
    (k_str_Ref : PySem.W.kitOne K (.type "str") (.ref cRef) = some false)
    (k_tuple_Parts : PySem.W.kitOne K (.type "tuple") (.ref cParts) = some false)
    (k_tuple_Table : PySem.W.kitOne K (.type "tuple") (.ref cTable) = some false)
    (k_tuple_Instance : PySem.W.kitOne K (.type "tuple") (.ref cInstance) = some false)
    (k_tuple_Kin : PySem.W.kitOne K (.type "tuple") (.ref cKin) = some false)
    (k_tuple_Builtin : PySem.W.kitOne K (.type "tuple") (.ref cBuiltin) = some false)
    (k_tuple_Ref : PySem.W.kitOne K (.type "tuple") (.ref cRef) = some false)
    (k_list_Parts : PySem.W.kitOne K (.type "list") (.ref cParts) = some false)
    (k_list_Table : PySem.W.kitOne K (.type "list") (.ref cTable) = some false)
    (k_list_Instance : PySem.W.kitOne K (.type "list") (.ref cInstance) = some false)
    (k_list_Kin : PySem.W.kitOne K (.type "list") (.ref cKin) = some false)
    (k_list_Builtin : PySem.W.kitOne K (.type "list") (.ref cBuiltin) = some false)
    (k_list_Ref : PySem.W.kitOne K (.type "list") (.ref cRef) = some false)
    (nf_Ref_NoneType : PySem.W.notFirst K cRef (.type "NoneType") = true)
    (su_Ref_NoneType : PySem.W.subIn K (.ref cRef) (.type "NoneType") = some false)
    (nf_Ref_int : PySem.W.notFirst K cRef (.type "int") = true)
    (su_Ref_int : PySem.W.subIn K (.ref cRef) (.type "int") = some false)
    (nf_Ref_str : PySem.W.notFirst K cRef (.type "str") = true)
    (su_Ref_str : PySem.W.subIn K (.ref cRef) (.type "str") = some false)
    (nf_Ref_tuple : PySem.W.notFirst K cRef (.type "tuple") = true)
    (su_Ref_tuple : PySem.W.subIn K (.ref cRef) (.type "tuple") = some false)
    (nf_Ref_list : PySem.W.notFirst K cRef (.type "list") = true)
    (su_Ref_list : PySem.W.subIn K (.ref cRef) (.type "list") = some false)
    (nf_Ref_Builtin : PySem.W.notFirst K cRef (.ref cBuiltin) = true)
    (nf_Ref_Parts : PySem.W.notFirst K cRef (.ref cParts) = true)
    (nf_Ref_Table : PySem.W.notFirst K cRef (.ref cTable) = true)
    (nf_Ref_Instance : PySem.W.notFirst K cRef (.ref cInstance) = true)
    (nf_Ref_Kin : PySem.W.notFirst K cRef (.ref cKin) = true)
    (nf_Ref_Closure : PySem.W.notFirst K cRef (.ref cClosure) = true)
    (nf_Ref_Bound : PySem.W.notFirst K cRef (.ref cBound) = true)
    (nf_Ref_Cursor : PySem.W.notFirst K cRef (.ref cCursor) = true)
    (nf_Ref_Form : PySem.W.notFirst K cRef (.ref cForm) = true)
    (nf_Ref_Store : PySem.W.notFirst K cRef (.ref cStore) = true)
    (nf_Builtin_NoneType : PySem.W.notFirst K cBuiltin (.type "NoneType") = true)
    (su_Builtin_NoneType : PySem.W.subIn K (.ref cBuiltin) (.type "NoneType") = some false)
    (nf_Builtin_int : PySem.W.notFirst K cBuiltin (.type "int") = true)
    (su_Builtin_int : PySem.W.subIn K (.ref cBuiltin) (.type "int") = some false)
    (nf_Builtin_str : PySem.W.notFirst K cBuiltin (.type "str") = true)
    (su_Builtin_str : PySem.W.subIn K (.ref cBuiltin) (.type "str") = some false)
    (nf_Builtin_tuple : PySem.W.notFirst K cBuiltin (.type "tuple") = true)
    (su_Builtin_tuple : PySem.W.subIn K (.ref cBuiltin) (.type "tuple") = some false)
    (nf_Builtin_list : PySem.W.notFirst K cBuiltin (.type "list") = true)
    (su_Builtin_list : PySem.W.subIn K (.ref cBuiltin) (.type "list") = some false)
    (nf_Builtin_Ref : PySem.W.notFirst K cBuiltin (.ref cRef) = true)
    (nf_Builtin_Parts : PySem.W.notFirst K cBuiltin (.ref cParts) = true)
    (nf_Builtin_Table : PySem.W.notFirst K cBuiltin (.ref cTable) = true)
    (nf_Builtin_Instance : PySem.W.notFirst K cBuiltin (.ref cInstance) = true)
    (nf_Builtin_Kin : PySem.W.notFirst K cBuiltin (.ref cKin) = true)
    (nf_Builtin_Closure : PySem.W.notFirst K cBuiltin (.ref cClosure) = true)
    (nf_Builtin_Bound : PySem.W.notFirst K cBuiltin (.ref cBound) = true)
    (nf_Builtin_Cursor : PySem.W.notFirst K cBuiltin (.ref cCursor) = true)
    (nf_Builtin_Form : PySem.W.notFirst K cBuiltin (.ref cForm) = true)
    (nf_Builtin_Store : PySem.W.notFirst K cBuiltin (.ref cStore) = true)
    (zrange : PySem.W.nsIn K mainGlobals "range" = some none)
    (zlen : PySem.W.nsIn K mainGlobals "len" = some none)
    (zint : PySem.W.nsIn K mainGlobals "int" = some none)
    (zstr : PySem.W.nsIn K mainGlobals "str" = some none)
    (zbool : PySem.W.nsIn K mainGlobals "bool" = some none)
    (zisinstance : PySem.W.nsIn K mainGlobals "isinstance" = some none)
    (zlist : PySem.W.nsIn K mainGlobals "list" = some none)
    (zabs : PySem.W.nsIn K mainGlobals "abs" = some none)
    (zmin : PySem.W.nsIn K mainGlobals "min" = some none)
    (zmax : PySem.W.nsIn K mainGlobals "max" = some none)
    (zenumerate : PySem.W.nsIn K mainGlobals "enumerate" = some none)
    : ∃ fd : FuncData, (∀ (s : Shared) (v : Value), BindsTo s fd ⟨[v], []⟩ [("script", v)]) ∧ ∀ base : Heap, K.In base → base.Ns mainGlobals mg → FnOk l.prog w K mg base CX0 40 fa fd ["script"] (spLaw K) := by
  have e := hfa.symm.trans (PySem.W.mg_of X G alaw)
  cases e
  have KlRef : Cls K cRef := ⟨pgRef, hdRef, poRef, saRef⟩
  have tyRef : ∀ {H : Hp} {a dx : Addr} {fs : List (Str × V)}, H a = some (.ins cRef dx fs) → TyX K H (.ref a) (.ref cRef) := fun e => .base (.ins e KlRef haRef hnTy htTy hmRef)
  have KlBuiltin : Cls K cBuiltin := ⟨pgBuiltin, hdBuiltin, poBuiltin, saBuiltin⟩
  have tyBuiltin : ∀ {H : Hp} {a dx : Addr} {fs : List (Str × V)}, H a = some (.ins cBuiltin dx fs) → TyX K H (.ref a) (.ref cBuiltin) := fun e => .base (.ins e KlBuiltin haBuiltin hnTy htTy hmBuiltin)
  have KlParts : Cls K cParts := ⟨pgParts, hdParts, poParts, saParts⟩
  have tyParts : ∀ {H : Hp} {a dx : Addr} {fs : List (Str × V)}, H a = some (.ins cParts dx fs) → TyX K H (.ref a) (.ref cParts) := fun e => .base (.ins e KlParts haParts hnTy htTy hmParts)
  have KlTable : Cls K cTable := ⟨pgTable, hdTable, poTable, saTable⟩
  have tyTable : ∀ {H : Hp} {a dx : Addr} {fs : List (Str × V)}, H a = some (.ins cTable dx fs) → TyX K H (.ref a) (.ref cTable) := fun e => .base (.ins e KlTable haTable hnTy htTy hmTable)
  have KlInstance : Cls K cInstance := ⟨pgInstance, hdInstance, poInstance, saInstance⟩
  have tyInstance : ∀ {H : Hp} {a dx : Addr} {fs : List (Str × V)}, H a = some (.ins cInstance dx fs) → TyX K H (.ref a) (.ref cInstance) := fun e => .base (.ins e KlInstance haInstance hnTy htTy hmInstance)
  have KlKin : Cls K cKin := ⟨pgKin, hdKin, poKin, saKin⟩
  have tyKin : ∀ {H : Hp} {a dx : Addr} {fs : List (Str × V)}, H a = some (.ins cKin dx fs) → TyX K H (.ref a) (.ref cKin) := fun e => .base (.ins e KlKin haKin hnTy htTy hmKin)
  have KlClosure : Cls K cClosure := ⟨pgClosure, hdClosure, poClosure, saClosure⟩
  have tyClosure : ∀ {H : Hp} {a dx : Addr} {fs : List (Str × V)}, H a = some (.ins cClosure dx fs) → TyX K H (.ref a) (.ref cClosure) := fun e => .base (.ins e KlClosure haClosure hnTy htTy hmClosure)
  have KlBound : Cls K cBound := ⟨pgBound, hdBound, poBound, saBound⟩
  have tyBound : ∀ {H : Hp} {a dx : Addr} {fs : List (Str × V)}, H a = some (.ins cBound dx fs) → TyX K H (.ref a) (.ref cBound) := fun e => .base (.ins e KlBound haBound hnTy htTy hmBound)
  have KlCursor : Cls K cCursor := ⟨pgCursor, hdCursor, poCursor, saCursor⟩
  have tyCursor : ∀ {H : Hp} {a dx : Addr} {fs : List (Str × V)}, H a = some (.ins cCursor dx fs) → TyX K H (.ref a) (.ref cCursor) := fun e => .base (.ins e KlCursor haCursor hnTy htTy hmCursor)
  have KlForm : Cls K cForm := ⟨pgForm, hdForm, poForm, saForm⟩
  have tyForm : ∀ {H : Hp} {a dx : Addr} {fs : List (Str × V)}, H a = some (.ins cForm dx fs) → TyX K H (.ref a) (.ref cForm) := fun e => .base (.ins e KlForm haForm hnTy htTy hmForm)
  have KlStore : Cls K cStore := ⟨pgStore, hdStore, poStore, saStore⟩
  have tyStore : ∀ {H : Hp} {a dx : Addr} {fs : List (Str × V)}, H a = some (.ins cStore dx fs) → TyX K H (.ref a) (.ref cStore) := fun e => .base (.ins e KlStore haStore hnTy htTy hmStore)
  have Ff_quoted := fun_mk (st := s_quoted) lf_quoted cf_quoted kf_quoted
  have bf_quoted := Ff_quoted.binds (ps := ["text"]) fun _ _ _ _ _ _ us hl => match us, hl with | [_], _ => rfl
  have glf_quoted := PySem.W.mg_of X G af_quoted
  have Ff_tagged := fun_mk (st := s_tagged) lf_tagged cf_tagged kf_tagged
  have bf_tagged := Ff_tagged.binds (ps := ["key"]) fun _ _ _ _ _ _ us hl => match us, hl with | [_], _ => rfl
  have glf_tagged := PySem.W.mg_of X G af_tagged
  have Ff_write_value := fun_mk (st := s_write_value) lf_write_value cf_write_value kf_write_value
  have bf_write_value := Ff_write_value.binds (ps := ["store", "value", "most"]) fun _ _ _ _ _ _ us hl => match us, hl with | [_, _, _], _ => rfl
  have glf_write_value := PySem.W.mg_of X G af_write_value
  have Ff_text_of := fun_mk (st := s_text_of) lf_text_of cf_text_of kf_text_of
  have bf_text_of := Ff_text_of.binds (ps := ["store", "value", "most"]) fun _ _ _ _ _ _ us hl => match us, hl with | [_, _, _], _ => rfl
  have glf_text_of := PySem.W.mg_of X G af_text_of
  have Ff_show_ := fun_mk (st := s_show_) lf_show_ cf_show_ kf_show_
  have bf_show_ := Ff_show_.binds (ps := ["store", "value"]) fun _ _ _ _ _ _ us hl => match us, hl with | [_, _], _ => rfl
  have glf_show_ := PySem.W.mg_of X G af_show_
  have Ff_shortened := fun_mk (st := s_shortened) lf_shortened cf_shortened kf_shortened
  have bf_shortened := Ff_shortened.binds (ps := ["text"]) fun _ _ _ _ _ _ us hl => match us, hl with | [_], _ => rfl
  have glf_shortened := PySem.W.mg_of X G af_shortened
  have Ff_write := fun_mk (st := s_write) lf_write cf_write kf_write
  have bf_write := Ff_write.binds (ps := ["form", "value"]) fun _ _ _ _ _ _ us hl => match us, hl with | [_, _], _ => rfl
  have glf_write := PySem.W.mg_of X G af_write
  have Ff_write_around := fun_mk (st := s_write_around) lf_write_around cf_write_around kf_write_around
  have bf_write_around := Ff_write_around.binds (ps := ["form", "ref", "opening", "closing"]) fun _ _ _ _ _ _ us hl => match us, hl with | [_, _, _, _], _ => rfl
  have glf_write_around := PySem.W.mg_of X G af_write_around
  have Ff_write_held := fun_mk (st := s_write_held) lf_write_held cf_write_held kf_write_held
  have bf_write_held := Ff_write_held.binds (ps := ["form", "thing"]) fun _ _ _ _ _ _ us hl => match us, hl with | [_, _], _ => rfl
  have glf_write_held := PySem.W.mg_of X G af_write_held
  have Ff_held_by := fun_mk (st := s_held_by) lf_held_by cf_held_by kf_held_by
  have bf_held_by := Ff_held_by.binds (ps := ["thing"]) fun _ _ _ _ _ _ us hl => match us, hl with | [_], _ => rfl
  have glf_held_by := PySem.W.mg_of X G af_held_by
  have Ff_plain_form := fun_mk (st := s_plain_form) lf_plain_form cf_plain_form kf_plain_form
  have bf_plain_form := Ff_plain_form.binds (ps := ["form", "value", "thing"]) fun _ _ _ _ _ _ us hl => match us, hl with | [_, _, _], _ => rfl
  have glf_plain_form := PySem.W.mg_of X G af_plain_form
  have Ff_law_cell := fun_mk (st := s_law_cell) lf_law_cell cf_law_cell kf_law_cell
  have bf_law_cell := Ff_law_cell.binds (ps := ["script", "k"]) fun _ _ _ _ _ _ us hl => match us, hl with | [_, _], _ => rfl
  have glf_law_cell := PySem.W.mg_of X G af_law_cell
  have Ff_law_begin := fun_mk (st := s_law_begin) lf_law_begin cf_law_begin kf_law_begin
  have bf_law_begin := Ff_law_begin.binds (ps := ["script", "k"]) fun _ _ _ _ _ _ us hl => match us, hl with | [_, _], _ => rfl
  have glf_law_begin := PySem.W.mg_of X G af_law_begin
  have Ff_law_draw := fun_mk (st := s_law_draw) lf_law_draw cf_law_draw kf_law_draw
  have bf_law_draw := Ff_law_draw.binds (ps := ["state", "many"]) fun _ _ _ _ _ _ us hl => match us, hl with | [_, _], _ => rfl
  have glf_law_draw := PySem.W.mg_of X G af_law_draw
  have Ff_law_pick := fun_mk (st := s_law_pick) lf_law_pick cf_law_pick kf_law_pick
  have bf_law_pick := Ff_law_pick.binds (ps := ["state", "row"]) fun _ _ _ _ _ _ us hl => match us, hl with | [_, _], _ => rfl
  have glf_law_pick := PySem.W.mg_of X G af_law_pick
  have Ff_law_value := fun_mk (st := s_law_value) lf_law_value cf_law_value kf_law_value
  have bf_law_value := Ff_law_value.binds (ps := ["state", "many"]) fun _ _ _ _ _ _ us hl => match us, hl with | [_, _], _ => rfl
  have glf_law_value := PySem.W.mg_of X G af_law_value
  have Ff_law_fill := fun_mk (st := s_law_fill) lf_law_fill cf_law_fill kf_law_fill
  have bf_law_fill := Ff_law_fill.binds (ps := ["store", "state", "many"]) fun _ _ _ _ _ _ us hl => match us, hl with | [_, _, _], _ => rfl
  have glf_law_fill := PySem.W.mg_of X G af_law_fill
  have Ff_law_quoted := fun_mk (st := s_law_quoted) lf_law_quoted cf_law_quoted kf_law_quoted
  have bf_law_quoted := Ff_law_quoted.binds (ps := ["text"]) fun _ _ _ _ _ _ us hl => match us, hl with | [_], _ => rfl
  have glf_law_quoted := PySem.W.mg_of X G af_law_quoted
  have Ff_law_plain := fun_mk (st := s_law_plain) lf_law_plain cf_law_plain kf_law_plain
  have bf_law_plain := Ff_law_plain.binds (ps := ["store", "value"]) fun _ _ _ _ _ _ us hl => match us, hl with | [_, _], _ => rfl
  have glf_law_plain := PySem.W.mg_of X G af_law_plain
  have Ff_law_form := fun_mk (st := s_law_form) lf_law_form cf_law_form kf_law_form
  have bf_law_form := Ff_law_form.binds (ps := ["store", "value", "around", "room"]) fun _ _ _ _ _ _ us hl => match us, hl with | [_, _, _, _], _ => rfl
  have glf_law_form := PySem.W.mg_of X G af_law_form
  have Flaw := fun_mk (st := s_law) llaw claw klaw
  have gllaw := PySem.W.mg_of X G alaw
  have Ff_Ref_init := fun_mk (st := s_Ref_init) lf_Ref_init cf_Ref_init kf_Ref_init
  have bf_Ref_init := Ff_Ref_init.binds (ps := ["self", "number"]) fun _ _ _ _ _ _ us hl => match us, hl with | [_, _], _ => rfl
  have Kf_Ref_init : Mk K cRef a_Ref_init := ⟨mkRef, af_Ref_init, if_Ref_init, kcRef⟩
  have Ff_Ref_eq := fun_mk (st := s_Ref_eq) lf_Ref_eq cf_Ref_eq kf_Ref_eq
  have bf_Ref_eq := Ff_Ref_eq.binds (ps := ["self", "other"]) fun _ _ _ _ _ _ us hl => match us, hl with | [_, _], _ => rfl
  have Mf_Ref_eq : Meth K cRef "__eq__" a_Ref_eq := ⟨af_Ref_eq, if_Ref_eq, kf_Ref_eq⟩
  have Ff_Builtin_init := fun_mk (st := s_Builtin_init) lf_Builtin_init cf_Builtin_init kf_Builtin_init
  have bf_Builtin_init := Ff_Builtin_init.binds (ps := ["self", "name"]) fun _ _ _ _ _ _ us hl => match us, hl with | [_, _], _ => rfl
  have Kf_Builtin_init : Mk K cBuiltin a_Builtin_init := ⟨mkBuiltin, af_Builtin_init, if_Builtin_init, kcBuiltin⟩
  have Ff_Builtin_eq := fun_mk (st := s_Builtin_eq) lf_Builtin_eq cf_Builtin_eq kf_Builtin_eq
  have bf_Builtin_eq := Ff_Builtin_eq.binds (ps := ["self", "other"]) fun _ _ _ _ _ _ us hl => match us, hl with | [_, _], _ => rfl
  have Mf_Builtin_eq : Meth K cBuiltin "__eq__" a_Builtin_eq := ⟨af_Builtin_eq, if_Builtin_eq, kf_Builtin_eq⟩
  have Ff_Parts_init := fun_mk (st := s_Parts_init) lf_Parts_init cf_Parts_init kf_Parts_init
  have bf_Parts_init := Ff_Parts_init.binds (ps := ["self", "held"]) fun _ _ _ _ _ _ us hl => match us, hl with | [_, _], _ => rfl
  have Kf_Parts_init : Mk K cParts a_Parts_init := ⟨mkParts, af_Parts_init, if_Parts_init, kcParts⟩
  have Ff_Table_init := fun_mk (st := s_Table_init) lf_Table_init cf_Table_init kf_Table_init
  have bf_Table_init := Ff_Table_init.binds (ps := ["self"]) fun _ _ _ _ _ _ us hl => match us, hl with | [_], _ => rfl
  have Kf_Table_init : Mk K cTable a_Table_init := ⟨mkTable, af_Table_init, if_Table_init, kcTable⟩
  have Ff_Table_has := fun_mk (st := s_Table_has) lf_Table_has cf_Table_has kf_Table_has
  have bf_Table_has := Ff_Table_has.binds (ps := ["self", "key"]) fun _ _ _ _ _ _ us hl => match us, hl with | [_, _], _ => rfl
  have Mf_Table_has : Meth K cTable "has" a_Table_has := ⟨af_Table_has, if_Table_has, kf_Table_has⟩
  have Ff_Table_put := fun_mk (st := s_Table_put) lf_Table_put cf_Table_put kf_Table_put
  have bf_Table_put := Ff_Table_put.binds (ps := ["self", "key", "value"]) fun _ _ _ _ _ _ us hl => match us, hl with | [_, _, _], _ => rfl
  have Mf_Table_put : Meth K cTable "put" a_Table_put := ⟨af_Table_put, if_Table_put, kf_Table_put⟩
  have Ff_Table_pairs := fun_mk (st := s_Table_pairs) lf_Table_pairs cf_Table_pairs kf_Table_pairs
  have bf_Table_pairs := Ff_Table_pairs.binds (ps := ["self"]) fun _ _ _ _ _ _ us hl => match us, hl with | [_], _ => rfl
  have Mf_Table_pairs : Meth K cTable "pairs" a_Table_pairs := ⟨af_Table_pairs, if_Table_pairs, kf_Table_pairs⟩
  have Ff_Table_many := fun_mk (st := s_Table_many) lf_Table_many cf_Table_many kf_Table_many
  have bf_Table_many := Ff_Table_many.binds (ps := ["self"]) fun _ _ _ _ _ _ us hl => match us, hl with | [_], _ => rfl
  have Pf_Table_many : PropOf K cTable "many" p_Table_many a_Table_many := ⟨af_Table_many, pgtf_Table_many, ptkf_Table_many, _, prcf_Table_many⟩
  have Ff_Instance_init := fun_mk (st := s_Instance_init) lf_Instance_init cf_Instance_init kf_Instance_init
  have bf_Instance_init := Ff_Instance_init.binds (ps := ["self", "owner"]) fun _ _ _ _ _ _ us hl => match us, hl with | [_, _], _ => rfl
  have Kf_Instance_init : Mk K cInstance a_Instance_init := ⟨mkInstance, af_Instance_init, if_Instance_init, kcInstance⟩
  have Ff_Kin_init := fun_mk (st := s_Kin_init) lf_Kin_init cf_Kin_init kf_Kin_init
  have bf_Kin_init := Ff_Kin_init.binds (ps := ["self", "name", "parent"]) fun _ _ _ _ _ _ us hl => match us, hl with | [_, _, _], _ => rfl
  have Kf_Kin_init : Mk K cKin a_Kin_init := ⟨mkKin, af_Kin_init, if_Kin_init, kcKin⟩
  have Ff_Closure_init := fun_mk (st := s_Closure_init) lf_Closure_init cf_Closure_init kf_Closure_init
  have bf_Closure_init := Ff_Closure_init.binds (ps := ["self", "number", "wanted", "scope"]) fun _ _ _ _ _ _ us hl => match us, hl with | [_, _, _, _], _ => rfl
  have Kf_Closure_init : Mk K cClosure a_Closure_init := ⟨mkClosure, af_Closure_init, if_Closure_init, kcClosure⟩
  have Ff_Bound_init := fun_mk (st := s_Bound_init) lf_Bound_init cf_Bound_init kf_Bound_init
  have bf_Bound_init := Ff_Bound_init.binds (ps := ["self", "owner", "function"]) fun _ _ _ _ _ _ us hl => match us, hl with | [_, _, _], _ => rfl
  have Kf_Bound_init : Mk K cBound a_Bound_init := ⟨mkBound, af_Bound_init, if_Bound_init, kcBound⟩
  have Ff_Cursor_init := fun_mk (st := s_Cursor_init) lf_Cursor_init cf_Cursor_init kf_Cursor_init
  have bf_Cursor_init := Ff_Cursor_init.binds (ps := ["self", "rest"]) fun _ _ _ _ _ _ us hl => match us, hl with | [_, _], _ => rfl
  have Kf_Cursor_init : Mk K cCursor a_Cursor_init := ⟨mkCursor, af_Cursor_init, if_Cursor_init, kcCursor⟩
  have Ff_Form_init := fun_mk (st := s_Form_init) lf_Form_init cf_Form_init kf_Form_init
  have bf_Form_init := Ff_Form_init.binds (ps := ["self", "store", "most"]) fun _ _ _ _ _ _ us hl => match us, hl with | [_, _, _], _ => rfl
  have Kf_Form_init : Mk K cForm a_Form_init := ⟨mkForm, af_Form_init, if_Form_init, kcForm⟩
  have Ff_Form_add := fun_mk (st := s_Form_add) lf_Form_add cf_Form_add kf_Form_add
  have bf_Form_add := Ff_Form_add.binds (ps := ["self", "text"]) fun _ _ _ _ _ _ us hl => match us, hl with | [_, _], _ => rfl
  have Mf_Form_add : Meth K cForm "add" a_Form_add := ⟨af_Form_add, if_Form_add, kf_Form_add⟩
  have Ff_Form_is_enough := fun_mk (st := s_Form_is_enough) lf_Form_is_enough cf_Form_is_enough kf_Form_is_enough
  have bf_Form_is_enough := Ff_Form_is_enough.binds (ps := ["self"]) fun _ _ _ _ _ _ us hl => match us, hl with | [_], _ => rfl
  have Mf_Form_is_enough : Meth K cForm "is_enough" a_Form_is_enough := ⟨af_Form_is_enough, if_Form_is_enough, kf_Form_is_enough⟩
  have Ff_Store_init := fun_mk (st := s_Store_init) lf_Store_init cf_Store_init kf_Store_init
  have bf_Store_init := Ff_Store_init.binds (ps := ["self", "lines"]) fun _ _ _ _ _ _ us hl => match us, hl with | [_, _], _ => rfl
  have Kf_Store_init : Mk K cStore a_Store_init := ⟨mkStore, af_Store_init, if_Store_init, kcStore⟩
  have Ff_Store_make := fun_mk (st := s_Store_make) lf_Store_make cf_Store_make kf_Store_make
  have bf_Store_make := Ff_Store_make.binds (ps := ["self", "thing"]) fun _ _ _ _ _ _ us hl => match us, hl with | [_, _], _ => rfl
  have Mf_Store_make : Meth K cStore "make" a_Store_make := ⟨af_Store_make, if_Store_make, kf_Store_make⟩
  have Ff_Store_at := fun_mk (st := s_Store_at) lf_Store_at cf_Store_at kf_Store_at
  have bf_Store_at := Ff_Store_at.binds (ps := ["self", "ref"]) fun _ _ _ _ _ _ us hl => match us, hl with | [_, _], _ => rfl
  have Mf_Store_at : Meth K cStore "at" a_Store_at := ⟨af_Store_at, if_Store_at, kf_Store_at⟩
  have ciMOST_SHOWN : ∃ t, mg "MOST_SHOWN" = some (.int 100 t) := ⟨_, PySem.W.mg_of X G qMOST_SHOWN⟩
  have ciMOST_AROUND : ∃ t, mg "MOST_AROUND" = some (.int 10 t) := ⟨_, PySem.W.mg_of X G qMOST_AROUND⟩
  have L : Lib l.prog K mg ⟨cRef, cBuiltin, cParts, cTable, cInstance, cKin, cClosure, cBound, cCursor, cForm, cStore⟩ := ⟨PySem.W.mg_none_of X G zrange, PySem.W.mg_none_of X G zlen, PySem.W.mg_none_of X G zint, PySem.W.mg_none_of X G zstr, PySem.W.mg_none_of X G zbool, PySem.W.mg_none_of X G zisinstance, PySem.W.mg_none_of X G zlist, PySem.W.mg_none_of X G zabs, PySem.W.mg_none_of X G zmin, PySem.W.mg_none_of X G zmax, PySem.W.mg_none_of X G zenumerate, ⟨KlRef, PySem.W.mg_of X G uRef, tyRef⟩, nRef_number, ⟨KlBuiltin, PySem.W.mg_of X G uBuiltin, tyBuiltin⟩, nBuiltin_name, ⟨KlParts, PySem.W.mg_of X G uParts, tyParts⟩, nParts_held, ⟨KlTable, PySem.W.mg_of X G uTable, tyTable⟩, nTable__entries, ⟨KlInstance, PySem.W.mg_of X G uInstance, tyInstance⟩, nInstance_owner, nInstance_named, ⟨KlKin, PySem.W.mg_of X G uKin, tyKin⟩, nKin_name, nKin_parent, nKin_methods, ⟨KlClosure, PySem.W.mg_of X G uClosure, tyClosure⟩, nClosure_number, nClosure_wanted, nClosure_scope, ⟨KlBound, PySem.W.mg_of X G uBound, tyBound⟩, nBound_owner, nBound_function, ⟨KlCursor, PySem.W.mg_of X G uCursor, tyCursor⟩, nCursor_rest, ⟨KlForm, PySem.W.mg_of X G uForm, tyForm⟩, nForm_store, nForm_most, nForm_pieces, nForm_size, nForm_around, ⟨KlStore, PySem.W.mg_of X G uStore, tyStore⟩, nStore_things, nStore_output, nStore_lines, nStore_taken, k_Ref_Parts, k_Ref_Table, k_Ref_Instance, k_Ref_Kin, k_Ref_Builtin, k_Ref_str, k_Ref_bool, k_Ref_int, k_Builtin_Parts, k_Builtin_Table, k_Builtin_Instance, k_Builtin_Kin, k_Builtin_Ref, k_Builtin_str, k_Builtin_bool, k_Builtin_int, k_Parts_Table, k_Parts_Instance, k_Parts_Kin, k_Parts_Builtin, k_Parts_Ref, k_Parts_str, k_Parts_bool, k_Parts_int, k_Table_Parts, k_Table_Instance, k_Table_Kin, k_Table_Builtin, k_Table_Ref, k_Table_str, k_Table_bool, k_Table_int, k_Instance_Parts, k_Instance_Table, k_Instance_Kin, k_Instance_Builtin, k_Instance_Ref, k_Instance_str, k_Instance_bool, k_Instance_int, k_Kin_Parts, k_Kin_Table, k_Kin_Instance, k_Kin_Builtin, k_Kin_Ref, k_Kin_str, k_Kin_bool, k_Kin_int, k_Closure_Parts, k_Closure_Table, k_Closure_Instance, k_Closure_Kin, k_Closure_Builtin, k_Closure_Ref, k_Closure_str, k_Closure_bool, k_Closure_int, k_Bound_Parts, k_Bound_Table, k_Bound_Instance, k_Bound_Kin, k_Bound_Builtin, k_Bound_Ref, k_Bound_str, k_Bound_bool, k_Bound_int, k_Cursor_Parts, k_Cursor_Table, k_Cursor_Instance, k_Cursor_Kin, k_Cursor_Builtin, k_Cursor_Ref, k_Cursor_str, k_Cursor_bool, k_Cursor_int, k_Form_Parts, k_Form_Table, k_Form_Instance, k_Form_Kin, k_Form_Builtin, k_Form_Ref, k_Form_str, k_Form_bool, k_Form_int, k_Store_Parts, k_Store_Table, k_Store_Instance, k_Store_Kin, k_Store_Builtin, k_Store_Ref, k_Store_str, k_Store_bool, k_Store_int, k_NoneType_Parts, k_NoneType_Table, k_NoneType_Instance, k_NoneType_Kin, k_NoneType_Builtin, k_NoneType_Ref, k_bool_Parts, k_bool_Table, k_bool_Instance, k_bool_Kin, k_bool_Builtin, k_bool_Ref, k_int_Parts, k_int_Table, k_int_Instance, k_int_Kin, k_int_Builtin, k_int_Ref, k_str_Parts, k_str_Table, k_str_Instance, k_str_Kin, k_str_Builtin, k_str_Ref, k_tuple_Parts, k_tuple_Table, k_tuple_Instance, k_tuple_Kin, k_tuple_Builtin, k_tuple_Ref, k_list_Parts, k_list_Table, k_list_Instance, k_list_Kin, k_list_Builtin, k_list_Ref, nf_Ref_NoneType, su_Ref_NoneType, nf_Ref_int, su_Ref_int, nf_Ref_str, su_Ref_str, nf_Ref_tuple, su_Ref_tuple, nf_Ref_list, su_Ref_list, nf_Ref_Builtin, nf_Ref_Parts, nf_Ref_Table, nf_Ref_Instance, nf_Ref_Kin, nf_Ref_Closure, nf_Ref_Bound, nf_Ref_Cursor, nf_Ref_Form, nf_Ref_Store, nf_Builtin_NoneType, su_Builtin_NoneType, nf_Builtin_int, su_Builtin_int, nf_Builtin_str, su_Builtin_str, nf_Builtin_tuple, su_Builtin_tuple, nf_Builtin_list, su_Builtin_list, nf_Builtin_Ref, nf_Builtin_Parts, nf_Builtin_Table, nf_Builtin_Instance, nf_Builtin_Kin, nf_Builtin_Closure, nf_Builtin_Bound, nf_Builtin_Cursor, nf_Builtin_Form, nf_Builtin_Store, ciMOST_SHOWN, ciMOST_AROUND, ⟨_, _, Ff_quoted, bf_quoted, glf_quoted⟩, ⟨_, _, Ff_tagged, bf_tagged, glf_tagged⟩, ⟨_, _, Ff_write_value, bf_write_value, glf_write_value⟩, ⟨_, _, Ff_text_of, bf_text_of, glf_text_of⟩, ⟨_, _, Ff_show_, bf_show_, glf_show_⟩, ⟨_, _, Ff_shortened, bf_shortened, glf_shortened⟩, ⟨_, _, Ff_write, bf_write, glf_write⟩, ⟨_, _, Ff_write_around, bf_write_around, glf_write_around⟩, ⟨_, _, Ff_write_held, bf_write_held, glf_write_held⟩, ⟨_, _, Ff_held_by, bf_held_by, glf_held_by⟩, ⟨_, _, Ff_plain_form, bf_plain_form, glf_plain_form⟩, ⟨_, _, Ff_law_cell, bf_law_cell, glf_law_cell⟩, ⟨_, _, Ff_law_begin, bf_law_begin, glf_law_begin⟩, ⟨_, _, Ff_law_draw, bf_law_draw, glf_law_draw⟩, ⟨_, _, Ff_law_pick, bf_law_pick, glf_law_pick⟩, ⟨_, _, Ff_law_value, bf_law_value, glf_law_value⟩, ⟨_, _, Ff_law_fill, bf_law_fill, glf_law_fill⟩, ⟨_, _, Ff_law_quoted, bf_law_quoted, glf_law_quoted⟩, ⟨_, _, Ff_law_plain, bf_law_plain, glf_law_plain⟩, ⟨_, _, Ff_law_form, bf_law_form, glf_law_form⟩, ⟨_, _, Ff_Ref_init, bf_Ref_init, Kf_Ref_init⟩, ⟨_, _, Ff_Ref_eq, bf_Ref_eq, ⟨af_Ref_eq, if_Ref_eq⟩⟩, ⟨_, _, Ff_Builtin_init, bf_Builtin_init, Kf_Builtin_init⟩, ⟨_, _, Ff_Builtin_eq, bf_Builtin_eq, ⟨af_Builtin_eq, if_Builtin_eq⟩⟩, ⟨_, _, Ff_Parts_init, bf_Parts_init, Kf_Parts_init⟩, ⟨_, _, Ff_Table_init, bf_Table_init, Kf_Table_init⟩, ⟨_, _, Ff_Table_has, bf_Table_has, Mf_Table_has⟩, ⟨_, _, Ff_Table_put, bf_Table_put, Mf_Table_put⟩, ⟨_, _, Ff_Table_pairs, bf_Table_pairs, Mf_Table_pairs⟩, ⟨_, _, _, Ff_Table_many, bf_Table_many, Pf_Table_many⟩, ⟨_, _, Ff_Instance_init, bf_Instance_init, Kf_Instance_init⟩, ⟨_, _, Ff_Kin_init, bf_Kin_init, Kf_Kin_init⟩, ⟨_, _, Ff_Closure_init, bf_Closure_init, Kf_Closure_init⟩, ⟨_, _, Ff_Bound_init, bf_Bound_init, Kf_Bound_init⟩, ⟨_, _, Ff_Cursor_init, bf_Cursor_init, Kf_Cursor_init⟩, ⟨_, _, Ff_Form_init, bf_Form_init, Kf_Form_init⟩, ⟨_, _, Ff_Form_add, bf_Form_add, Mf_Form_add⟩, ⟨_, _, Ff_Form_is_enough, bf_Form_is_enough, Mf_Form_is_enough⟩, ⟨_, _, Ff_Store_init, bf_Store_init, Kf_Store_init⟩, ⟨_, _, Ff_Store_make, bf_Store_make, Mf_Store_make⟩, ⟨_, _, Ff_Store_at, bf_Store_at, Mf_Store_at⟩⟩
  exact ⟨PySem.W.fnOf "law" "law" (defArgs s_law) (defBody s_law) (defScope s_law) .none kVlaw dclaw pmlaw anlaw cdlaw ctlaw, fun s v => .of_eq rfl, fun base _ _ => ok_law Flaw L⟩
end My
open PySem PySem.W PyProof.Rows
set_option maxRecDepth 100000 in
set_option maxHeartbeats 0 in
theorem PySem.Challenge.cw_livequill_k24_written_forms_holds : PySem.Challenge.rw_livequill_k24_written_forms.Holds := by
  w_on; o_law; k_head; (case hw => w_witness2)
  k_fill
  refine L2.walk_of (l := PySem.Challenge.rw_livequill_k24_written_forms) (n := 63) (k := 40) (x := "script") (CX := fun _ => L2.CX0) (sp := fun w => My.spLaw _) rfl (by decide) rfl ⟨rfl, by decide, by decide⟩ (fun w h Y => PySem.W.kIn_of Y) ?F (fun _ _ a ns hl _ hS => ⟨a, ns, rfl, hS, hl, fun _ => rfl⟩) (fun _ _ _ _ _ h => h)
  case F =>
    intro w mg fa h KX G hmg
    refine' My.all_mk KX G hmg ?uRef ?mkRef ?kcRef ?pgRef ?hdRef ?poRef ?saRef ?nRef_number ?hnTy ?htTy ?haRef ?hmRef ?uBuiltin ?mkBuiltin ?kcBuiltin ?pgBuiltin ?hdBuiltin ?poBuiltin ?saBuiltin ?nBuiltin_name ?haBuiltin ?hmBuiltin ?uParts ?mkParts ?kcParts ?pgParts ?hdParts ?poParts ?saParts ?nParts_held ?haParts ?hmParts ?uTable ?mkTable ?kcTable ?pgTable ?hdTable ?poTable ?saTable ?nTable__entries ?haTable ?hmTable ?uInstance ?mkInstance ?kcInstance ?pgInstance ?hdInstance ?poInstance ?saInstance ?nInstance_owner ?nInstance_named ?haInstance ?hmInstance ?uKin ?mkKin ?kcKin ?pgKin ?hdKin ?poKin ?saKin ?nKin_name ?nKin_parent ?nKin_methods ?haKin ?hmKin ?uClosure ?mkClosure ?kcClosure ?pgClosure ?hdClosure ?poClosure ?saClosure ?nClosure_number ?nClosure_wanted ?nClosure_scope ?haClosure ?hmClosure ?uBound ?mkBound ?kcBound ?pgBound ?hdBound ?poBound ?saBound ?nBound_owner ?nBound_function ?haBound ?hmBound ?uCursor ?mkCursor ?kcCursor ?pgCursor ?hdCursor ?poCursor ?saCursor ?nCursor_rest ?haCursor ?hmCursor ?uForm ?mkForm ?kcForm ?pgForm ?hdForm ?poForm ?saForm ?nForm_store ?nForm_most ?nForm_pieces ?nForm_size ?nForm_around ?haForm ?hmForm ?uStore ?mkStore ?kcStore ?pgStore ?hdStore ?poStore ?saStore ?nStore_things ?nStore_output ?nStore_lines ?nStore_taken ?haStore ?hmStore ?af_quoted ?lf_quoted ?cf_quoted ?kf_quoted ?af_tagged ?lf_tagged ?cf_tagged ?kf_tagged ?af_write_value ?lf_write_value ?cf_write_value ?kf_write_value ?af_text_of ?lf_text_of ?cf_text_of ?kf_text_of ?af_show_ ?lf_show_ ?cf_show_ ?kf_show_ ?af_shortened ?lf_shortened ?cf_shortened ?kf_shortened ?af_write ?lf_write ?cf_write ?kf_write ?af_write_around ?lf_write_around ?cf_write_around ?kf_write_around ?af_write_held ?lf_write_held ?cf_write_held ?kf_write_held ?af_held_by ?lf_held_by ?cf_held_by ?kf_held_by ?af_plain_form ?lf_plain_form ?cf_plain_form ?kf_plain_form ?af_law_cell ?lf_law_cell ?cf_law_cell ?kf_law_cell ?af_law_begin ?lf_law_begin ?cf_law_begin ?kf_law_begin ?af_law_draw ?lf_law_draw ?cf_law_draw ?kf_law_draw ?af_law_pick ?lf_law_pick ?cf_law_pick ?kf_law_pick ?af_law_value ?lf_law_value ?cf_law_value ?kf_law_value ?af_law_fill ?lf_law_fill ?cf_law_fill ?kf_law_fill ?af_law_quoted ?lf_law_quoted ?cf_law_quoted ?kf_law_quoted ?af_law_plain ?lf_law_plain ?cf_law_plain ?kf_law_plain ?af_law_form ?lf_law_form ?cf_law_form ?kf_law_form ?alaw ?llaw ?claw ?klaw ?af_Ref_init ?if_Ref_init ?lf_Ref_init ?cf_Ref_init ?kf_Ref_init ?af_Ref_eq ?if_Ref_eq ?lf_Ref_eq ?cf_Ref_eq ?kf_Ref_eq ?af_Builtin_init ?if_Builtin_init ?lf_Builtin_init ?cf_Builtin_init ?kf_Builtin_init ?af_Builtin_eq ?if_Builtin_eq ?lf_Builtin_eq ?cf_Builtin_eq ?kf_Builtin_eq ?af_Parts_init ?if_Parts_init ?lf_Parts_init ?cf_Parts_init ?kf_Parts_init ?af_Table_init ?if_Table_init ?lf_Table_init ?cf_Table_init ?kf_Table_init ?af_Table_has ?if_Table_has ?lf_Table_has ?cf_Table_has ?kf_Table_has ?af_Table_put ?if_Table_put ?lf_Table_put ?cf_Table_put ?kf_Table_put ?af_Table_pairs ?if_Table_pairs ?lf_Table_pairs ?cf_Table_pairs ?kf_Table_pairs ?af_Table_many ?pgtf_Table_many ?ptkf_Table_many ?prcf_Table_many ?lf_Table_many ?cf_Table_many ?kf_Table_many ?af_Instance_init ?if_Instance_init ?lf_Instance_init ?cf_Instance_init ?kf_Instance_init ?af_Kin_init ?if_Kin_init ?lf_Kin_init ?cf_Kin_init ?kf_Kin_init ?af_Closure_init ?if_Closure_init ?lf_Closure_init ?cf_Closure_init ?kf_Closure_init ?af_Bound_init ?if_Bound_init ?lf_Bound_init ?cf_Bound_init ?kf_Bound_init ?af_Cursor_init ?if_Cursor_init ?lf_Cursor_init ?cf_Cursor_init ?kf_Cursor_init ?af_Form_init ?if_Form_init ?lf_Form_init ?cf_Form_init ?kf_Form_init ?af_Form_add ?if_Form_add ?lf_Form_add ?cf_Form_add ?kf_Form_add ?af_Form_is_enough ?if_Form_is_enough ?lf_Form_is_enough ?cf_Form_is_enough ?kf_Form_is_enough ?af_Store_init ?if_Store_init ?lf_Store_init ?cf_Store_init ?kf_Store_init ?af_Store_make ?if_Store_make ?lf_Store_make ?cf_Store_make ?kf_Store_make ?af_Store_at ?if_Store_at ?lf_Store_at ?cf_Store_at ?kf_Store_at ?qMOST_SHOWN ?qMOST_AROUND ?k_Ref_Parts ?k_Ref_Table ?k_Ref_Instance ?k_Ref_Kin ?k_Ref_Builtin ?k_Ref_str ?k_Ref_bool ?k_Ref_int ?k_Builtin_Parts ?k_Builtin_Table ?k_Builtin_Instance ?k_Builtin_Kin ?k_Builtin_Ref ?k_Builtin_str ?k_Builtin_bool ?k_Builtin_int ?k_Parts_Table ?k_Parts_Instance ?k_Parts_Kin ?k_Parts_Builtin ?k_Parts_Ref ?k_Parts_str ?k_Parts_bool ?k_Parts_int ?k_Table_Parts ?k_Table_Instance ?k_Table_Kin ?k_Table_Builtin ?k_Table_Ref ?k_Table_str ?k_Table_bool ?k_Table_int ?k_Instance_Parts ?k_Instance_Table ?k_Instance_Kin ?k_Instance_Builtin ?k_Instance_Ref ?k_Instance_str ?k_Instance_bool ?k_Instance_int ?k_Kin_Parts ?k_Kin_Table ?k_Kin_Instance ?k_Kin_Builtin ?k_Kin_Ref ?k_Kin_str ?k_Kin_bool ?k_Kin_int ?k_Closure_Parts ?k_Closure_Table ?k_Closure_Instance ?k_Closure_Kin ?k_Closure_Builtin ?k_Closure_Ref ?k_Closure_str ?k_Closure_bool ?k_Closure_int ?k_Bound_Parts ?k_Bound_Table ?k_Bound_Instance ?k_Bound_Kin ?k_Bound_Builtin ?k_Bound_Ref ?k_Bound_str ?k_Bound_bool ?k_Bound_int ?k_Cursor_Parts ?k_Cursor_Table ?k_Cursor_Instance ?k_Cursor_Kin ?k_Cursor_Builtin ?k_Cursor_Ref ?k_Cursor_str ?k_Cursor_bool ?k_Cursor_int ?k_Form_Parts ?k_Form_Table ?k_Form_Instance ?k_Form_Kin ?k_Form_Builtin ?k_Form_Ref ?k_Form_str ?k_Form_bool ?k_Form_int ?k_Store_Parts ?k_Store_Table ?k_Store_Instance ?k_Store_Kin ?k_Store_Builtin ?k_Store_Ref ?k_Store_str ?k_Store_bool ?k_Store_int ?k_NoneType_Parts ?k_NoneType_Table ?k_NoneType_Instance ?k_NoneType_Kin ?k_NoneType_Builtin ?k_NoneType_Ref ?k_bool_Parts ?k_bool_Table ?k_bool_Instance ?k_bool_Kin ?k_bool_Builtin ?k_bool_Ref ?k_int_Parts ?k_int_Table ?k_int_Instance ?k_int_Kin ?k_int_Builtin ?k_int_Ref ?k_str_Parts ?k_str_Table ?k_str_Instance ?k_str_Kin ?k_str_Builtin ?k_str_Ref ?k_tuple_Parts ?k_tuple_Table ?k_tuple_Instance ?k_tuple_Kin ?k_tuple_Builtin ?k_tuple_Ref ?k_list_Parts ?k_list_Table ?k_list_Instance ?k_list_Kin ?k_list_Builtin ?k_list_Ref ?nf_Ref_NoneType ?su_Ref_NoneType ?nf_Ref_int ?su_Ref_int ?nf_Ref_str ?su_Ref_str ?nf_Ref_tuple ?su_Ref_tuple ?nf_Ref_list ?su_Ref_list ?nf_Ref_Builtin ?nf_Ref_Parts ?nf_Ref_Table ?nf_Ref_Instance ?nf_Ref_Kin ?nf_Ref_Closure ?nf_Ref_Bound ?nf_Ref_Cursor ?nf_Ref_Form ?nf_Ref_Store ?nf_Builtin_NoneType ?su_Builtin_NoneType ?nf_Builtin_int ?su_Builtin_int ?nf_Builtin_str ?su_Builtin_str ?nf_Builtin_tuple ?su_Builtin_tuple ?nf_Builtin_list ?su_Builtin_list ?nf_Builtin_Ref ?nf_Builtin_Parts ?nf_Builtin_Table ?nf_Builtin_Instance ?nf_Builtin_Kin ?nf_Builtin_Closure ?nf_Builtin_Bound ?nf_Builtin_Cursor ?nf_Builtin_Form ?nf_Builtin_Store ?zrange ?zlen ?zint ?zstr ?zbool ?zisinstance ?zlist ?zabs ?zmin ?zmax ?zenumerate
    (case uRef => k_is)
    (case mkRef => k_is)
    (case kcRef => k_is)
    (case pgRef => k_is)
    (case hdRef => k_is)
    (case poRef => k_is)
    (case saRef => k_is)
    (case nRef_number => k_is)
    (case hnTy => k_is)
    (case htTy => k_is)
    (case haRef => k_is)
    (case hmRef => k_is)
    (case uBuiltin => k_is)
    (case mkBuiltin => k_is)
    (case kcBuiltin => k_is)
    (case pgBuiltin => k_is)
    (case hdBuiltin => k_is)
    (case poBuiltin => k_is)
    (case saBuiltin => k_is)
    (case nBuiltin_name => k_is)
    (case haBuiltin => k_is)
    (case hmBuiltin => k_is)
    (case uParts => k_is)
    (case mkParts => k_is)
    (case kcParts => k_is)
    (case pgParts => k_is)
    (case hdParts => k_is)
    (case poParts => k_is)
    (case saParts => k_is)
    (case nParts_held => k_is)
    (case haParts => k_is)
    (case hmParts => k_is)
    (case uTable => k_is)
    (case mkTable => k_is)
    (case kcTable => k_is)
    (case pgTable => k_is)
    (case hdTable => k_is)
    (case poTable => k_is)
    (case saTable => k_is)
    (case nTable__entries => k_is)
    (case haTable => k_is)
    (case hmTable => k_is)
    (case uInstance => k_is)
    (case mkInstance => k_is)
    (case kcInstance => k_is)
    (case pgInstance => k_is)
    (case hdInstance => k_is)
    (case poInstance => k_is)
    (case saInstance => k_is)
    (case nInstance_owner => k_is)
    (case nInstance_named => k_is)
    (case haInstance => k_is)
    (case hmInstance => k_is)
    (case uKin => k_is)
    (case mkKin => k_is)
    (case kcKin => k_is)
    (case pgKin => k_is)
    (case hdKin => k_is)
    (case poKin => k_is)
    (case saKin => k_is)
    (case nKin_name => k_is)
    (case nKin_parent => k_is)
    (case nKin_methods => k_is)
    (case haKin => k_is)
    (case hmKin => k_is)
    (case uClosure => k_is)
    (case mkClosure => k_is)
    (case kcClosure => k_is)
    (case pgClosure => k_is)
    (case hdClosure => k_is)
    (case poClosure => k_is)
    (case saClosure => k_is)
    (case nClosure_number => k_is)
    (case nClosure_wanted => k_is)
    (case nClosure_scope => k_is)
    (case haClosure => k_is)
    (case hmClosure => k_is)
    (case uBound => k_is)
    (case mkBound => k_is)
    (case kcBound => k_is)
    (case pgBound => k_is)
    (case hdBound => k_is)
    (case poBound => k_is)
    (case saBound => k_is)
    (case nBound_owner => k_is)
    (case nBound_function => k_is)
    (case haBound => k_is)
    (case hmBound => k_is)
    (case uCursor => k_is)
    (case mkCursor => k_is)
    (case kcCursor => k_is)
    (case pgCursor => k_is)
    (case hdCursor => k_is)
    (case poCursor => k_is)
    (case saCursor => k_is)
    (case nCursor_rest => k_is)
    (case haCursor => k_is)
    (case hmCursor => k_is)
    (case uForm => k_is)
    (case mkForm => k_is)
    (case kcForm => k_is)
    (case pgForm => k_is)
    (case hdForm => k_is)
    (case poForm => k_is)
    (case saForm => k_is)
    (case nForm_store => k_is)
    (case nForm_most => k_is)
    (case nForm_pieces => k_is)
    (case nForm_size => k_is)
    (case nForm_around => k_is)
    (case haForm => k_is)
    (case hmForm => k_is)
    (case uStore => k_is)
    (case mkStore => k_is)
    (case kcStore => k_is)
    (case pgStore => k_is)
    (case hdStore => k_is)
    (case poStore => k_is)
    (case saStore => k_is)
    (case nStore_things => k_is)
    (case nStore_output => k_is)
    (case nStore_lines => k_is)
    (case nStore_taken => k_is)
    (case haStore => k_is)
    (case hmStore => k_is)
    (case af_quoted => k_is)
    (case lf_quoted => k_is)
    (case cf_quoted => k_is)
    (case kf_quoted => k_is)
    (case af_tagged => k_is)
    (case lf_tagged => k_is)
    (case cf_tagged => k_is)
    (case kf_tagged => k_is)
    (case af_write_value => k_is)
    (case lf_write_value => k_is)
    (case cf_write_value => k_is)
    (case kf_write_value => k_is)
    (case af_text_of => k_is)
    (case lf_text_of => k_is)
    (case cf_text_of => k_is)
    (case kf_text_of => k_is)
    (case af_show_ => k_is)
    (case lf_show_ => k_is)
    (case cf_show_ => k_is)
    (case kf_show_ => k_is)
    (case af_shortened => k_is)
    (case lf_shortened => k_is)
    (case cf_shortened => k_is)
    (case kf_shortened => k_is)
    (case af_write => k_is)
    (case lf_write => k_is)
    (case cf_write => k_is)
    (case kf_write => k_is)
    (case af_write_around => k_is)
    (case lf_write_around => k_is)
    (case cf_write_around => k_is)
    (case kf_write_around => k_is)
    (case af_write_held => k_is)
    (case lf_write_held => k_is)
    (case cf_write_held => k_is)
    (case kf_write_held => k_is)
    (case af_held_by => k_is)
    (case lf_held_by => k_is)
    (case cf_held_by => k_is)
    (case kf_held_by => k_is)
    (case af_plain_form => k_is)
    (case lf_plain_form => k_is)
    (case cf_plain_form => k_is)
    (case kf_plain_form => k_is)
    (case af_law_cell => k_is)
    (case lf_law_cell => k_is)
    (case cf_law_cell => k_is)
    (case kf_law_cell => k_is)
    (case af_law_begin => k_is)
    (case lf_law_begin => k_is)
    (case cf_law_begin => k_is)
    (case kf_law_begin => k_is)
    (case af_law_draw => k_is)
    (case lf_law_draw => k_is)
    (case cf_law_draw => k_is)
    (case kf_law_draw => k_is)
    (case af_law_pick => k_is)
    (case lf_law_pick => k_is)
    (case cf_law_pick => k_is)
    (case kf_law_pick => k_is)
    (case af_law_value => k_is)
    (case lf_law_value => k_is)
    (case cf_law_value => k_is)
    (case kf_law_value => k_is)
    (case af_law_fill => k_is)
    (case lf_law_fill => k_is)
    (case cf_law_fill => k_is)
    (case kf_law_fill => k_is)
    (case af_law_quoted => k_is)
    (case lf_law_quoted => k_is)
    (case cf_law_quoted => k_is)
    (case kf_law_quoted => k_is)
    (case af_law_plain => k_is)
    (case lf_law_plain => k_is)
    (case cf_law_plain => k_is)
    (case kf_law_plain => k_is)
    (case af_law_form => k_is)
    (case lf_law_form => k_is)
    (case cf_law_form => k_is)
    (case kf_law_form => k_is)
    (case alaw => k_is)
    (case llaw => k_is)
    (case claw => k_is)
    (case klaw => k_is)
    (case af_Ref_init => k_is)
    (case if_Ref_init => k_is)
    (case lf_Ref_init => k_is)
    (case cf_Ref_init => k_is)
    (case kf_Ref_init => k_is)
    (case af_Ref_eq => k_is)
    (case if_Ref_eq => k_is)
    (case lf_Ref_eq => k_is)
    (case cf_Ref_eq => k_is)
    (case kf_Ref_eq => k_is)
    (case af_Builtin_init => k_is)
    (case if_Builtin_init => k_is)
    (case lf_Builtin_init => k_is)
    (case cf_Builtin_init => k_is)
    (case kf_Builtin_init => k_is)
    (case af_Builtin_eq => k_is)
    (case if_Builtin_eq => k_is)
    (case lf_Builtin_eq => k_is)
    (case cf_Builtin_eq => k_is)
    (case kf_Builtin_eq => k_is)
    (case af_Parts_init => k_is)
    (case if_Parts_init => k_is)
    (case lf_Parts_init => k_is)
    (case cf_Parts_init => k_is)
    (case kf_Parts_init => k_is)
    (case af_Table_init => k_is)
    (case if_Table_init => k_is)
    (case lf_Table_init => k_is)
    (case cf_Table_init => k_is)
    (case kf_Table_init => k_is)
    (case af_Table_has => k_is)
    (case if_Table_has => k_is)
    (case lf_Table_has => k_is)
    (case cf_Table_has => k_is)
    (case kf_Table_has => k_is)
    (case af_Table_put => k_is)
    (case if_Table_put => k_is)
    (case lf_Table_put => k_is)
    (case cf_Table_put => k_is)
    (case kf_Table_put => k_is)
    (case af_Table_pairs => k_is)
    (case if_Table_pairs => k_is)
    (case lf_Table_pairs => k_is)
    (case cf_Table_pairs => k_is)
    (case kf_Table_pairs => k_is)
    (case af_Table_many => k_is)
    (case pgtf_Table_many => k_is)
    (case ptkf_Table_many => k_is)
    (case prcf_Table_many => k_is)
    (case lf_Table_many => k_is)
    (case cf_Table_many => k_is)
    (case kf_Table_many => k_is)
    (case af_Instance_init => k_is)
    (case if_Instance_init => k_is)
    (case lf_Instance_init => k_is)
    (case cf_Instance_init => k_is)
    (case kf_Instance_init => k_is)
    (case af_Kin_init => k_is)
    (case if_Kin_init => k_is)
    (case lf_Kin_init => k_is)
    (case cf_Kin_init => k_is)
    (case kf_Kin_init => k_is)
    (case af_Closure_init => k_is)
    (case if_Closure_init => k_is)
    (case lf_Closure_init => k_is)
    (case cf_Closure_init => k_is)
    (case kf_Closure_init => k_is)
    (case af_Bound_init => k_is)
    (case if_Bound_init => k_is)
    (case lf_Bound_init => k_is)
    (case cf_Bound_init => k_is)
    (case kf_Bound_init => k_is)
    (case af_Cursor_init => k_is)
    (case if_Cursor_init => k_is)
    (case lf_Cursor_init => k_is)
    (case cf_Cursor_init => k_is)
    (case kf_Cursor_init => k_is)
    (case af_Form_init => k_is)
    (case if_Form_init => k_is)
    (case lf_Form_init => k_is)
    (case cf_Form_init => k_is)
    (case kf_Form_init => k_is)
    (case af_Form_add => k_is)
    (case if_Form_add => k_is)
    (case lf_Form_add => k_is)
    (case cf_Form_add => k_is)
    (case kf_Form_add => k_is)
    (case af_Form_is_enough => k_is)
    (case if_Form_is_enough => k_is)
    (case lf_Form_is_enough => k_is)
    (case cf_Form_is_enough => k_is)
    (case kf_Form_is_enough => k_is)
    (case af_Store_init => k_is)
    (case if_Store_init => k_is)
    (case lf_Store_init => k_is)
    (case cf_Store_init => k_is)
    (case kf_Store_init => k_is)
    (case af_Store_make => k_is)
    (case if_Store_make => k_is)
    (case lf_Store_make => k_is)
    (case cf_Store_make => k_is)
    (case kf_Store_make => k_is)
    (case af_Store_at => k_is)
    (case if_Store_at => k_is)
    (case lf_Store_at => k_is)
    (case cf_Store_at => k_is)
    (case kf_Store_at => k_is)
    (case qMOST_SHOWN => k_is)
    (case qMOST_AROUND => k_is)
    (case k_Ref_Parts => kit_is)
    (case k_Ref_Table => kit_is)
    (case k_Ref_Instance => kit_is)
    (case k_Ref_Kin => kit_is)
    (case k_Ref_Builtin => kit_is)
    (case k_Ref_str => kit_is)
    (case k_Ref_bool => kit_is)
    (case k_Ref_int => kit_is)
    (case k_Builtin_Parts => kit_is)
    (case k_Builtin_Table => kit_is)
    (case k_Builtin_Instance => kit_is)
    (case k_Builtin_Kin => kit_is)
    (case k_Builtin_Ref => kit_is)
    (case k_Builtin_str => kit_is)
    (case k_Builtin_bool => kit_is)
    (case k_Builtin_int => kit_is)
    (case k_Parts_Table => kit_is)
    (case k_Parts_Instance => kit_is)
    (case k_Parts_Kin => kit_is)
    (case k_Parts_Builtin => kit_is)
    (case k_Parts_Ref => kit_is)
    (case k_Parts_str => kit_is)
    (case k_Parts_bool => kit_is)
    (case k_Parts_int => kit_is)
    (case k_Table_Parts => kit_is)
    (case k_Table_Instance => kit_is)
    (case k_Table_Kin => kit_is)
    (case k_Table_Builtin => kit_is)
    (case k_Table_Ref => kit_is)
    (case k_Table_str => kit_is)
    (case k_Table_bool => kit_is)
    (case k_Table_int => kit_is)
    (case k_Instance_Parts => kit_is)
    (case k_Instance_Table => kit_is)
    (case k_Instance_Kin => kit_is)
    (case k_Instance_Builtin => kit_is)
    (case k_Instance_Ref => kit_is)
    (case k_Instance_str => kit_is)
    (case k_Instance_bool => kit_is)
    (case k_Instance_int => kit_is)
    (case k_Kin_Parts => kit_is)
    (case k_Kin_Table => kit_is)
    (case k_Kin_Instance => kit_is)
    (case k_Kin_Builtin => kit_is)
    (case k_Kin_Ref => kit_is)
    (case k_Kin_str => kit_is)
    (case k_Kin_bool => kit_is)
    (case k_Kin_int => kit_is)
    (case k_Closure_Parts => kit_is)
    (case k_Closure_Table => kit_is)
    (case k_Closure_Instance => kit_is)
    (case k_Closure_Kin => kit_is)
    (case k_Closure_Builtin => kit_is)
    (case k_Closure_Ref => kit_is)
    (case k_Closure_str => kit_is)
    (case k_Closure_bool => kit_is)
    (case k_Closure_int => kit_is)
    (case k_Bound_Parts => kit_is)
    (case k_Bound_Table => kit_is)
    (case k_Bound_Instance => kit_is)
    (case k_Bound_Kin => kit_is)
    (case k_Bound_Builtin => kit_is)
    (case k_Bound_Ref => kit_is)
    (case k_Bound_str => kit_is)
    (case k_Bound_bool => kit_is)
    (case k_Bound_int => kit_is)
    (case k_Cursor_Parts => kit_is)
    (case k_Cursor_Table => kit_is)
    (case k_Cursor_Instance => kit_is)
    (case k_Cursor_Kin => kit_is)
    (case k_Cursor_Builtin => kit_is)
    (case k_Cursor_Ref => kit_is)
    (case k_Cursor_str => kit_is)
    (case k_Cursor_bool => kit_is)
    (case k_Cursor_int => kit_is)
    (case k_Form_Parts => kit_is)
    (case k_Form_Table => kit_is)
    (case k_Form_Instance => kit_is)
    (case k_Form_Kin => kit_is)
    (case k_Form_Builtin => kit_is)
    (case k_Form_Ref => kit_is)
    (case k_Form_str => kit_is)
    (case k_Form_bool => kit_is)
    (case k_Form_int => kit_is)
    (case k_Store_Parts => kit_is)
    (case k_Store_Table => kit_is)
    (case k_Store_Instance => kit_is)
    (case k_Store_Kin => kit_is)
    (case k_Store_Builtin => kit_is)
    (case k_Store_Ref => kit_is)
    (case k_Store_str => kit_is)
    (case k_Store_bool => kit_is)
    (case k_Store_int => kit_is)
    (case k_NoneType_Parts => kit_is)
    (case k_NoneType_Table => kit_is)
    (case k_NoneType_Instance => kit_is)
    (case k_NoneType_Kin => kit_is)
    (case k_NoneType_Builtin => kit_is)
    (case k_NoneType_Ref => kit_is)
    (case k_bool_Parts => kit_is)
    (case k_bool_Table => kit_is)
    (case k_bool_Instance => kit_is)
    (case k_bool_Kin => kit_is)
    (case k_bool_Builtin => kit_is)
    (case k_bool_Ref => kit_is)
    (case k_int_Parts => kit_is)
    (case k_int_Table => kit_is)
    (case k_int_Instance => kit_is)
    (case k_int_Kin => kit_is)
    (case k_int_Builtin => kit_is)
    (case k_int_Ref => kit_is)
    (case k_str_Parts => kit_is)
    (case k_str_Table => kit_is)
    (case k_str_Instance => kit_is)
    (case k_str_Kin => kit_is)
    (case k_str_Builtin => kit_is)
    (case k_str_Ref => kit_is)
    (case k_tuple_Parts => kit_is)
    (case k_tuple_Table => kit_is)
    (case k_tuple_Instance => kit_is)
    (case k_tuple_Kin => kit_is)
    (case k_tuple_Builtin => kit_is)
    (case k_tuple_Ref => kit_is)
    (case k_list_Parts => kit_is)
    (case k_list_Table => kit_is)
    (case k_list_Instance => kit_is)
    (case k_list_Kin => kit_is)
    (case k_list_Builtin => kit_is)
    (case k_list_Ref => kit_is)
    (case nf_Ref_NoneType => k_is)
    (case su_Ref_NoneType => k_is)
    (case nf_Ref_int => k_is)
    (case su_Ref_int => k_is)
    (case nf_Ref_str => k_is)
    (case su_Ref_str => k_is)
    (case nf_Ref_tuple => k_is)
    (case su_Ref_tuple => k_is)
    (case nf_Ref_list => k_is)
    (case su_Ref_list => k_is)
    (case nf_Ref_Builtin => k_is)
    (case nf_Ref_Parts => k_is)
    (case nf_Ref_Table => k_is)
    (case nf_Ref_Instance => k_is)
    (case nf_Ref_Kin => k_is)
    (case nf_Ref_Closure => k_is)
    (case nf_Ref_Bound => k_is)
    (case nf_Ref_Cursor => k_is)
    (case nf_Ref_Form => k_is)
    (case nf_Ref_Store => k_is)
    (case nf_Builtin_NoneType => k_is)
    (case su_Builtin_NoneType => k_is)
    (case nf_Builtin_int => k_is)
    (case su_Builtin_int => k_is)
    (case nf_Builtin_str => k_is)
    (case su_Builtin_str => k_is)
    (case nf_Builtin_tuple => k_is)
    (case su_Builtin_tuple => k_is)
    (case nf_Builtin_list => k_is)
    (case su_Builtin_list => k_is)
    (case nf_Builtin_Ref => k_is)
    (case nf_Builtin_Parts => k_is)
    (case nf_Builtin_Table => k_is)
    (case nf_Builtin_Instance => k_is)
    (case nf_Builtin_Kin => k_is)
    (case nf_Builtin_Closure => k_is)
    (case nf_Builtin_Bound => k_is)
    (case nf_Builtin_Cursor => k_is)
    (case nf_Builtin_Form => k_is)
    (case nf_Builtin_Store => k_is)
    (case zrange => k_is)
    (case zlen => k_is)
    (case zint => k_is)
    (case zstr => k_is)
    (case zbool => k_is)
    (case zisinstance => k_is)
    (case zlist => k_is)
    (case zabs => k_is)
    (case zmin => k_is)
    (case zmax => k_is)
    (case zenumerate => k_is)
