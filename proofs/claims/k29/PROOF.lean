import PyProof.Rows.All
import Wide.All
import OpenK.AllK
import Wide.FinOn
import HandS.ForMost
import HandS.ForExc
import HandS.StrMore
import HandS.IsInst
import HandS.Codes
import HandS.Flow
import HandS.More
import HandS.Walk
import HandS.OwnEq
import HandS.Style
import PyProof.Raises
import KE.RegKIsAll
import KE.KSuper
import KE.KExcSuper
import HandS.ExcInit
import HandS.Nested
import HandS.FStr
import HandS.ExcField
import HandS.ExcIs
import HandS.Wide
import HandS.WideBits
import HandS.Deep
import HandS.CallLocal
import HandS.CallSlots
import HandS.Star
import HandS.TupLen
import HandS.Property
import KE.KStar
import KE.KeyNested
import KE.KDictCopyH
import KE.KDictList
import PyProof.StrBlock2
import HandS.Conv
import KE.KDictWalk
import PyProof.DictValues
import PyProof.DictRoadsH
import PyProof.DictMoreH
import PyProof.Rows.TupTab
import PySem.Challenge.RW_livequill_k29_iterators
set_option Elab.async false
set_option linter.all false
set_option maxRecDepth 100000
namespace XS
open PySem PySem.W PySem.Calls PyProof.Rows L2 NdefX
/-! ### an own exception whose __init__ begins with super().__init__(e), over ValueError -/
/-- what the written part says: of the def at fI (its code object at cda, its cell at cc), of the class D in which it is written, and of the class C that is made -/
structure Sup (prog : Program) (K : Frag) (mg : Str → Option Value) (cda cc D C : Addr) : Prop where
  code : ∃ ccl cdd vs ccs file tf, K.lookup cda = some ⟨ccl, cdd, .fields vs, ccs⟩ ∧ vs[2]? = some (.str file tf) ∧ ((prog.main.file : Str) == file) = true
  cell : ∃ cl cld csl, K.lookup cc = some ⟨cl, cld, .cell (some (.ref D)), csl⟩
  top : (prog.main.scope.names.lookup ("super" : Str)).isSome = false
  sup : mg "super" = none
  cls : ∃ cdD, clsIn K D = some cdD
  sub : mroIn K C (.ref D) = some true
  opq : nsIn K cStatics "thirdparty.any" = some none
  ini : ks_superIn K C D "__init__" = some (some (.builtin "ValueError.__init__"))
  val : subIn K (.ref C) (.type "ValueError") = some true

theorem excInit_exo {cdC : Addr} {K : Frag} (T : OexC K cdC) {h : Heap} (X : K.In h) : ∃ nm q N bs bm sn sub ab col dd k0 k1 k2 k3 k5, h.get? cdC = some (excClassObj nm q cdC N bs bm true sn sub ab col dd k0 k1 k2 k3 k5 "ValueError.__new__") ∧ PySem.HandSPX.refsVE bm = true := by
  obtain ⟨nm, q, N, bs, bm, sn, sub, ab, col, dd, k0, k1, k2, k3, k5, hC, hbm⟩ := T.cls
  exact ⟨nm, q, N, bs, bm, sn, sub, ab, col, dd, k0, k1, k2, k3, k5, X _ _ hC, hbm⟩

section
variable {X : Cx} {pins : List (Addr × Obj)} {σ : L2.St} {H : Hp} {s : Shared} {x C : Addr} {A : Around} {E : Value → Shared → Prop}
/-- the method-wrapper called -/
theorem mw_call {u : Addr} {us : List Value} {Q : Value → Shared → Prop} (T : OexC X.K C) (I : Inv X pins σ H s) (e : H x = some (exo x C none)) (hu : s.heap.get? u = some (kxs_mw "ValueError.__init__" x)) (hl : us.length ≤ sizeLine)
    (h : ∀ s', Inv X pins σ H s' → Q .none s') : wpAny (model X.prog X.w) A (call (.ref u) us) Q E s := by
  obtain ⟨nm, q, N, bs, bm, sn, sub, ab, col, dd, k0, k1, k2, k3, k5, hC, hbm⟩ := excInit_exo T I.kIn
  obtain ⟨t1, ho⟩ := exo_at I.hok e
  obtain ⟨hp, g, d, t, os⟩ := s
  refine wpAny_call (codeAny_of_tree ?_)
  show wpAny _ A.in1 (callAny (.ref u) ⟨us, []⟩) _ _ _
  simp only [callAny]
  refine wpAny_bind (wpAny_load hu ?_)
  simp only [kxs_mw, show (Value.type "method-wrapper" == Value.type "method" || Value.type "method-wrapper" == Value.type "builtin_function_or_method" || Value.type "method-wrapper" == Value.type "method-wrapper") = true by decide, if_true]
  refine KFB.if_so (by decide) ?_
  refine wpAny_bind (check_bound_init F.excBase_ValueError.toExcCallFacts hC ho rfl ?_)
  refine wpAny_bind (wpAny_pure (wpAny_pure ?_))
  refine ⟨plainId_quiet F.excBase_ValueError.init.plain _, codeAny_builtin F.excBase_ValueError.initEntry ?_⟩
  refine exc_init_tree (cls := .ref C) (t0 := t1) (dv := none) (c2 := .none) (c3 := .none) (b4 := .bool false) ho hl fun h' k hx _ => ?_
  have J := I.write (t' := t) (x := x) (e := x) (o := exo x C none) (by rw [e]; exact True.intro) (.inl rfl) k ⟨_, hx⟩ (exo_ok hx)
  have eu : upd H x (exo x C none) = H := by
    funext b
    by_cases hb : b = x
    · rw [hb, upd_same, e]
    · rw [upd_ne hb]
  rw [eu] at J
  exact h _ J
end
theorem mw_with {M : Model} {A : Around} {E : Value → Shared → Prop} {s : Shared} {u x : Addr} {i : String} {pos : Pos} {env : Env} {e : Expr} {rest : List Expr} {Q : Value → Shared → Prop}
    (he : starEach (e :: rest) env = (false, eval e env) :: starEach rest env) (hplain : (backTo pos (starEach rest env)).any (·.1) = false)
    (h : wpAny M A (spliced (backTo pos (starEach (e :: rest) env))) (fun vs s₁ => KxsAt i u x s₁.heap ∧ wpAny M A (call (.ref u) vs) Q E s₁) E s) :
    wpAny M A (callWith pos (.ref u) [] (backTo pos (starEach (e :: rest) env)) []) Q E s := by
  rw [he] at h ⊢
  refine kxs_callWith (i := i) (x := x) (by show (false || (backTo pos (starEach rest env)).any (·.1)) = false; rw [hplain]; rfl) ?_
  exact evalArgs_plain h
/-- the def's own words -/
structure SupFn where
  qual : Str
  params : Arguments
  rest : List Stmt
  scope : Scope
  cda : Addr
  cc : Addr
  arg : Expr
  p0 : Pos
  p1 : Pos
  p2 : Pos
  p3 : Pos
  p4 : Pos
abbrev SupFn.body (F : SupFn) : List Stmt := .Expr (.Call (.Attribute (.Call (.Name "super" F.p0) [] [] F.p1) "__init__" F.p2) [F.arg] [] F.p3) F.p4 :: F.rest
abbrev SupFn.nf (F : SupFn) : NF := ⟨"__init__", F.qual, F.params, F.body, F.scope, [("__class__", F.cc)], F.cda⟩
def SupFn.Ev (F : SupFn) : Prop := ∀ env : Env, (∃ pl : Sem Bool, eval (.Call (.Attribute (.Call (.Name "super" F.p0) [] [] F.p1) "__init__" F.p2) [F.arg] [] F.p3) env = (do
      let ov ← attributeBase (.Call (.Name "super" F.p0) [] [] F.p1) "__init__" env (eval (.Call (.Name "super" F.p0) [] [] F.p1) env)
      standAt F.p2.atName
      let (f, first) ← holding [ov] (getMethod ov "__init__" pl)
      callWith F.p3 f first (backTo F.p3 (starEach [F.arg] env)) [])) ∧ starEach [F.arg] env = (false, eval F.arg env) :: starEach [] env ∧ swapsWith (.Call (.Attribute (.Call (.Name "super" F.p0) [] [] F.p1) "__init__" F.p2) [F.arg] [] F.p3) none F.p4.line env = pure false
theorem fn_super {CX : CXT} {P : Program} {w : World} {K : Frag} {mg : Str → Option Value} {base : Heap} {k : Nat} {fI D : Addr} {F : SupFn} {dV kV doc pm ct oc : Value} {an od : Option Addr} {osl : Array (Option Value)} {N ps : List Str} {sp : Sp} {ar : Arg}
    (lk : K.lookup fI = some ⟨oc, od, .func (ksFn "__init__" F.qual F.params F.body F.scope dV kV doc pm an (.ref F.cda) ct F.cc), osl⟩) (hcd : codeIn K (.ref F.cda) F.qual = true) (S : NScope N ps ["__class__"] F.scope)
    (hp : (F.params.posonlyargs ++ F.params.args).head? = some ar) (h0 : ps.head? = some ar.arg) (hks : F.scope.names.lookup ("super" : Str) = some .globalImplicit)
    (hev : F.Ev) (len : ∀ vs H Q E, sp vs H Q E → vs.length = ps.length)
    (hbody : ∀ (A : Around) (outer : List Env) (s : Shared) (H : Hp) (vs : List V) (Q : VK) (E : XK), Room k (A.deeper (envF F.nf fI s.heap.objs.size)) → sp vs H Q E →
      ∃ (x C : Addr) (ta : TA) (t : TS), vs.head? = some (.ref x) ∧ H x = some (exo x C none) ∧ OexC K C ∧ Sup P K mg F.cda F.cc D C ∧
        PA (ncx CX P w K mg base N F.nf fI A outer s H E) [F.arg] ta ∧ PSs (ncx CX P w K mg base N F.nf fI A outer s H E) F.rest t ∧
        ta (startF N vs [none]) H fun ws H1 => ws.length ≤ 1000 ∧ H1 x = some (exo x C none) ∧ t { nx := fun _ H' => Q .non H', rt := Q } (startF N vs [none]) H1) :
    FnOk P w K mg base CX (k + 1) fI (ksFn "__init__" F.qual F.params F.body F.scope dV kV doc pm an (.ref F.cda) ct F.cc) ps sp := by
  refine ⟨len, fun A outer s H args us vs Q E hr e0 hb r hsp => ?_⟩
  have hl := len _ _ _ _ hsp
  have KX : K.In s.heap := e0.mod.kin.keeps fun b o e => (e0.bs b o e).1
  have lim : s.heap.NoLimit := e0.mod.nolimit.keeps fun b o e => (e0.bs b o e).1
  obtain ⟨x, C, ta, t, hx0, hx, T, U, pa, pb, hq⟩ := hbody A outer s H vs Q E (hr.deeper _) hsp
  obtain ⟨ccl, cdd, cvs, ccs, file, tf, hcode, hvs, hfile⟩ := U.code
  obtain ⟨cl, cld, csl, hcell⟩ := U.cell
  obtain ⟨cdD, hD⟩ := U.cls
  refine ks_codeAny_call_defAt (fd := ksFn "__init__" F.qual F.params F.body F.scope dV kV doc pm an (.ref F.cda) ct F.cc) (body := F.body) (binds := ps.zip us) hr.depth (KX _ _ lk) rfl lim (codeRec_of KX hcd) rfl hb S.nocell (fun ⟨n, _⟩ hy => S.par n (List.of_mem_zip hy).1) (fun h₁ hns kp => ?_) S.co S.gen S.kind
  have CA : CellsAt F.nf.cl ["__class__"] [none] s.heap H := by
    have hc0 : base.get? F.cc = _ := e0.mod.kin _ _ hcell
    obtain ⟨g1, g2⟩ := e0.bs _ _ hc0
    have key : ∀ y c, F.nf.cl.lookup y = some c → y = "__class__" ∧ c = F.cc := fun y c e => by
      by_cases hy : y = "__class__"
      · subst hy
        have e' : some F.cc = some c := by simpa [List.lookup] using e
        exact ⟨rfl, (Option.some.inj e').symm⟩
      · have hne : (y == ("__class__" : Str)) = false := by simpa using hy
        have e' : (none : Option Addr) = some c := by simpa [List.lookup, hne] using e
        cases e'
    refine ⟨rfl, fun y c e => ?_, fun a b c e1 e2 => (key _ _ e1).1.trans (key _ _ e2).1.symm, fun i y e => ?_⟩
    · obtain ⟨_, rfl⟩ := key y c e
      exact ⟨g2, _, _, g1, rfl⟩
    · obtain rfl : y = "__class__" := by
        cases i with
        | zero => exact (Option.some.inj e).symm
        | succ i => cases e
      refine ⟨F.cc, by simp [List.lookup], fun v e' => ?_⟩
      cases i with
      | zero => cases e'
      | succ i => cases e
  have I : Inv (ncx CX P w K mg base N F.nf fI A outer s H E) [] (startF N vs [none]) H { s with heap := h₁, toks := s.toks + (ps.zip us).length } := inv_startN (F := F.nf) S hr.hd e0 hl r CA hns kp
  generalize hs1 : ({ s with heap := h₁, toks := s.toks + (ps.zip us).length } : Shared) = s1 at I ⊢
  have X1 : K.In s1.heap := I.kIn
  obtain ⟨t1, ho⟩ := exo_at I.hok hx
  obtain ⟨oD, hD1, hD2⟩ : ∃ oD, s1.heap.get? D = some oD ∧ oD.data = .cls cdD := by
    unfold clsIn at hD
    split at hD
    · rename_i c d cd' sl ho
      cases hD
      exact ⟨_, X1 _ _ ho, rfl⟩
    · cases hD
  have J : InstAt s1.heap x { cls := .ref C, dict := none, data := .fields #[.ref t1, .none, .none, .none, .bool false, .none] } C none := ⟨ho, rfl, rfl, trivial⟩
  have hself : ∃ u0 ur, us = u0 :: ur ∧ u0 = .ref x := by
    cases vs with
    | nil => cases hx0
    | cons v vr =>
      cases r with
      | @cons _ u0 _ ur ra rr =>
        obtain rfl : v = V.ref x := Option.some.inj hx0
        exact ⟨_, _, rfl, ra⟩
  obtain ⟨u0, ur, eu, eu0⟩ := hself
  subst eu0
  have hN : ∃ pr, ps = ar.arg :: pr := by
    cases ps with
    | nil => cases h0
    | cons a pr =>
      obtain rfl : a = ar.arg := Option.some.inj h0
      exact ⟨pr, rfl⟩
  obtain ⟨pr, eps⟩ := hN
  have ndP : ps.Nodup := by
    have q := S.nd.sublist (List.take_sublist (ps.length + (["__class__"] : List Str).length) N)
    rw [S.pre] at q
    exact (List.nodup_append.mp q).1
  have hns1 : s1.heap.Ns s.heap.objs.size (fun y => (ps.zip us).reverse.lookup y) := by rw [← hs1]; exact hns
  have hav : (ps.zip us).reverse.lookup ar.arg = some (.ref x) := zip_look (i := 0) ndP (by rw [eps]; rfl) (by rw [eu]; rfl)
  have ea : (ncx CX P w K mg base N F.nf fI A outer s H E).xe = fun e s' => wpAny (model P w) (A.deeper (envF F.nf fI s.heap.objs.size)) (leaving (envF F.nf fI s.heap.objs.size) e) (fun _ s'' => CX outer H s E e s'') (fun e' s'' => CX outer H s E e' s'') s' := rfl
  show _root_.PySem.wpAt (model P w) (A.deeper (envF F.nf fI s.heap.objs.size)) (.func F.body (envF F.nf fI s.heap.objs.size)) (execs F.body (envF F.nf fI s.heap.objs.size)) _ (ncx CX P w K mg base N F.nf fI A outer s H E).xe s1
  obtain ⟨⟨pl, hev1⟩, hev2, hev3⟩ := hev (envF F.nf fI s.heap.objs.size)
  refine ks_wpAt_execs_cons (ks_wpAt_Expr_any (ks_wpAt_MethodCall (pl := pl) ?_ hev1) (by show interactive (envF F.nf fI s.heap.objs.size) = false; simp [interactive, S.kind]) hev3)
  obtain ⟨mb, hb1, hb2⟩ := e0.mod.blt
  refine ks_wpAt_super_base (env := envF F.nf fI s.heap.objs.size) (of := _) (fd := _) (ar := ar) (oc := _) hks (S.frk _ (by simp)) rfl rfl (X1 _ _ lk) rfl hp rfl (X1 _ _ hcode) rfl hvs hfile U.top ?_
  refine ks_loadName_global S.kind hks (loadGlobal_builtin (env := envF F.nf fI s.heap.objs.size) (e0.mod.glob.keeps I.bk) U.sup (hb1.keeps I.bk) ((hb2 _ (by decide)).trans (by decide +kernel)) ⟨rfl, ?_⟩)
  refine wpAny_loadName_free S.kind (S.frk _ (by simp)) rfl ⟨_, X1 _ _ hcell, rfl⟩ ?_
  refine wpAny_loadName_local S.kind (S.par _ (by rw [eps]; simp)) hns1 hav ?_
  refine ks_wpAny_isType_cls hD1 hD2 ⟨rfl, ?_⟩
  clear hns kp
  obtain ⟨hp1, g1, d1, tk1, os1⟩ := s1
  refine ks_wpAny_call_super hD1 hD2 J.at_ J.cls (fun c e => by cases e) (looks_mroIn X1 U.sub) (fun h2 es2 k2 => ?_)
  have I2 := I.kept (t' := tk1) k2
  have X2 : K.In h2 := I2.kIn
  have J2 : InstAt h2 x { cls := .ref C, dict := none, data := .fields #[.ref t1, .none, .none, .none, .bool false, .none] } C none := ⟨k2 _ _ ho, rfl, rfl, trivial⟩
  have hI : Looks (model P w) h2 (isInstance (.ref x) (.type "ValueError")) true := J2.type.andThen (looks_subIn X2 U.val)
  have hini := U.ini
  cases hc : clsIn K C with
  | none => unfold ks_superIn at hini; rw [hc] at hini; cases hini
  | some cd =>
    unfold ks_superIn at hini
    rw [hc] at hini
    refine kxs_getMethod kxs_ValueError es2 (looks_opaque X2 U.opq) (l₀ := cd.mro) (fun A Q E s k q => wpAny_bind ((looks_clsIn X2 hc) A _ E s k (wpAny_pure q))) rfl X2 hini hI (ks_ne X2 J2 hc) rfl ?_
    have k3 : ∀ b o, h2.get? b = some o → (h2.push (kxs_mw "ValueError.__init__" x)).get? b = some o := fun b o e => Heap.get?_push_of_some _ e
    have I3 := I2.kept (h' := h2.push (kxs_mw "ValueError.__init__" x)) (t' := tk1 + 1) k3
    have hu : (h2.push (kxs_mw "ValueError.__init__" x)).get? h2.objs.size = some (kxs_mw "ValueError.__init__" x) := Heap.get?_push_at rfl rfl
    have pin : Inv (ncx CX P w K mg base N F.nf fI A outer s H E) [(h2.objs.size, kxs_mw "ValueError.__init__" x)] (startF N vs [none]) H ⟨h2.push (kxs_mw "ValueError.__init__" x), g1, d1, tk1 + 1, os1⟩ := by
      refine Inv.pins_of I3 fun p hp => ?_
      obtain rfl : p = (h2.objs.size, kxs_mw "ValueError.__init__" x) := by simpa using hp
      refine ⟨hu, I2.hok.fresh (Nat.le_refl _), ?_, I2.nofs (Nat.le_refl _), fun v e => by cases e⟩
      exact Nat.ne_of_gt I2.lt
    refine mw_with (i := "ValueError.__init__") (x := x) hev2 rfl ?_
    refine wpAny_mono (pa.run F.p3 _ _ _ _ _ pin hq) (fun ws s2 hh => ?_) fun e s' hs => hs
    obtain ⟨vs2, H2, I4, r4, hlen, hx4, hq4⟩ := hh
    have hu4 : s2.heap.get? h2.objs.size = some (kxs_mw "ValueError.__init__" x) := (I4.pin (h2.objs.size, kxs_mw "ValueError.__init__" x) (by simp)).1
    refine ⟨hu4, ?_⟩
    have hlw : ws.length ≤ sizeLine := by
      rw [← r4.length, sizeLine_eq]
      omega
    refine mw_call (X := ncx CX P w K mg base N F.nf fI A outer s H E) T I4 hx4 hu4 hlw fun s5 I5 => ?_
    have I6 : Inv (ncx CX P w K mg base N F.nf fI A outer s H E) [] (startF N vs [none]) H2 s5 := I5.pins_of fun p hp => absurd hp (by simp)
    refine wpAt_of_wpAny (wpAny_mono (pb.run [] s5 _ H2 _ I6 hq4) (fun fl s' hs => ?_) fun e s' hs => hs)
    have fin : ∀ {σ' : L2.St} {H' : Hp} {v : V} {u : Value}, Inv (ncx CX P w K mg base N F.nf fI A outer s H E) [] σ' H' s' → L2.RelV v u → Q v H' → CE outer P w H s Q u s' :=
      fun {σ' H' v u} J rv q => ⟨v, H', J.os, J.bare, J.base, J.hok, rv, q⟩
    cases fl with
    | ret u =>
      obtain ⟨v, σ', H', J, rv, q⟩ := hs
      exact fin J rv q
    | next =>
      obtain ⟨σ', H', J, q⟩ := hs
      exact fin (v := V.non) (u := Value.none) J rfl q
    | brk =>
      obtain ⟨_, _, _, q⟩ := hs
      exact False.elim q
    | cont =>
      obtain ⟨_, _, _, q⟩ := hs
      exact False.elim q
end XS
namespace XS
open PySem L2 NdefX
/-- the words of an __init__ that begins with super().__init__(e) -/
def supOf (st : Stmt) (qual : Str) (cda cc : Addr) : SupFn := match defBody st with
  | .Expr (.Call (.Attribute (.Call (.Name _ p0) _ _ p1) _ p2) (a :: _) _ p3) p4 :: rest => ⟨qual, defArgs st, rest, defScope st, cda, cc, a, p0, p1, p2, p3, p4⟩
  | _ => ⟨qual, defArgs st, [], defScope st, cda, cc, .Name "x" ⟨0, 0, 0, 0⟩, ⟨0, 0, 0, 0⟩, ⟨0, 0, 0, 0⟩, ⟨0, 0, 0, 0⟩, ⟨0, 0, 0, 0⟩, ⟨0, 0, 0, 0⟩⟩
/-- an __init__(self, n1, n2) of an own exception: f'..' of both to super's, then both are stored -/
def spTwo (C : Addr) (n1 n2 : Str) : Sp := fun vs H Q _ => ∃ a v1 v2, vs = [.ref a, v1, v2] ∧ H a = some (exo a C none) ∧ (∃ k : Str, v1 = .str k ∧ k.length ≤ 100000) ∧ (∃ k : Str, v2 = .str k ∧ k.length ≤ 100000) ∧
  ∀ d, H d = none → d ≠ a → Q .non (upd (upd (upd H d (exd d [(n1, v1)])) a (exo a C (some d))) d (exd d [(n2, v2), (n1, v1)]))
/-- what the written part says of the class at C and of its __init__ at fI -/
structure Exn (prog : Program) (K : PySem.W.Frag) (mg : Str → Option Value) (C fI : Addr) (n1 n2 : Str) : Prop where
  oex : OexC K C
  n1 : PySem.W.findIn K (.ref C) n1 = some none
  n2 : PySem.W.findIn K (.ref C) n2 = some none
  iC : PySem.W.findIn K (.ref C) "__init__" = some (some (.ref fI))
  tI : PySem.W.typeIn K (.ref fI) = some (.type "function")
  xf : XfC K C
  te : PySem.W.exmOne K (.ref C) (.ref C) = some true
/-- the end of C(e, ..) as the caller has it -/
theorem made_two {C : Addr} {n1 n2 : Str} {v1 v2 : V} {H : Hp} {a d : Addr} (hne : d ≠ a) (ha : H a = none) :
    upd (del (upd (upd (upd (upd H a (exo a C none)) d (exd d [(n1, v1)])) a (exo a C (some d))) d (exd d [(n2, v2), (n1, v1)])) a) d (.xd [(n2, v2), (n1, v1)]) = upd H d (.xd [(n2, v2), (n1, v1)]) := by
  funext b
  by_cases hb : b = d
  · rw [hb, upd_same, upd_same]
  · rw [upd_ne hb, upd_ne hb]
    by_cases hc : b = a
    · rw [hc, del_same, ha]
    · rw [del_ne hc, upd_ne hb, upd_ne hc, upd_ne hb, upd_ne hc]
section
variable {X : Cx} {C fI : Addr} {n1 n2 x : Str} {e : Expr} {es : List Expr} {ta : TA} {p pos pos2 : Pos} {fd : FuncData} {k : Nat}
/-- raise C(e1, e2) -/
theorem ps_raise2 {W : WX} (hc : X.calm = true) (T : Exn X.prog X.K X.mg C fI n1 n2) (F : FnOk X.prog X.w X.K X.mg X.base CX0 k fI fd ["self", n1, n2] (spTwo C n1 n2)) (hr : Room (k + 1) X.A) (tk : Takes X W) (hb : Binds X.K fd ["self", n1, n2] []) (hg : Gl X x) (hm : X.mg x = some (.ref C)) (ha : PA X (e :: es) ta)
    (hdb : (x == ("__debug__" : Str)) = false := by decide) (he : starEach (e :: es) X.env = (false, eval e X.env) :: starEach es X.env := by rfl) (hpl : (backTo pos (starEach es X.env)).any (·.1) = false := by rfl) :
    PS X (.Raise (some (.Call (.Name x p) (e :: es) [] pos)) none pos2) (fun _ σ H => tMkO C (spTwo C n1 n2) [] ta σ H fun cls d H' => W cls d σ H') := ps_raise (pos := pos2) hc tk (pmk_oex (e := e) (es := es) (p := p) (pos := pos) T.oex T.iC T.tI F hr hb .nil pass0 hg hm ha hdb he hpl)
/-- .. its reading, behind the arguments' -/
theorem made2 {k1 k2 : Str} {H1 : Hp} {Q : XK} (z1 : k1.length ≤ 100000) (z2 : k2.length ≤ 100000) (w : ∀ d, H1 d = none → Q (.ref C) (some d) (upd H1 d (.xd [(n2, .str k2), (n1, .str k1)]))) :
    ([.str k1, .str k2] : List V).length ≤ 1000 ∧ ∀ a, H1 a = none → spTwo C n1 n2 (.ref a :: ([.str k1, .str k2] ++ [])) (upd H1 a (exo a C none))
      (fun v H2 => v = .non ∧ ∃ (d : Addr) (fs : List (Str × V)), H2 a = some (exo a C (some d)) ∧ H2 d = some (exd d fs) ∧ H1 d = none ∧ Q (.ref C) (some d) (upd (del H2 a) d (.xd fs))) (fun _ _ _ => False) := by
  refine ⟨by show 2 ≤ 1000; omega, fun a ha => ?_⟩
  refine ⟨a, .str k1, .str k2, rfl, upd_same, ⟨_, rfl, z1⟩, ⟨_, rfl, z2⟩, fun d hd hne => ⟨rfl, d, _, ?_, upd_same, ?_, ?_⟩⟩
  · rw [upd_ne (Ne.symm hne)]
    exact upd_same
  · rw [upd_ne hne] at hd
    exact hd
  · rw [upd_ne hne] at hd
    rw [made_two hne ha]
    exact w d hd
end
end XS
namespace PySem.W
open PySem PySem.Spec PySem.Calls PyProof.Rows
section
variable {prog : Program} {w : World} {A : Around} {E : Value → Shared → Prop} {s : Shared} {K : Frag} {x D : Addr} {ox : Obj}
theorem xs_findObj {C : Addr} {od : Option Obj} {name : Str} {a g : Value} (hc : (clsIn K C).isSome = true) (ha : findIn K (.ref C) name = some (some a)) (hg : specialIn K a "__get__" = some (some g)) (ht : takesIn K a = some true) : findObj K C od name = some (.bind g a) := by
  obtain ⟨cd, hc⟩ := Option.isSome_iff_exists.mp hc
  unfold findObj
  rw [hc, Option.bind_some, ha, Option.bind_some]
  simp [hg, ht]
theorem xs_class {Q : Option Value → Shared → Prop} (hga : findIn K (.ref D) "__getattribute__" = some (some (.builtin "BaseException.__getattribute__"))) (hgt : findIn K (.ref D) "__getattr__" = some none) (hsub : subIn K (.ref D) (.type "BaseException") = some true)
    (hdct : hasDictIn K D = true) (ha : findIn K (.ref D) "__class__" = some (some (.builtin "object.__class__")))
    (hn : specialIn K (.builtin "object.__class__") "__get__" = some (some (.builtin "getset_descriptor.__get__"))) (htk : takesIn K (.builtin "object.__class__") = some true) (hm : mroIn K D (.type "object") = some true)
    {odx : Option Obj} (X : K.In s.heap) (I : InstAt s.heap x ox D odx) (h : Q (some (.ref D)) { s with toks := s.toks + 1 }) : wpAny (model prog w) A (getAttr? (.ref x) "__class__") Q E s := by
  have hf : findObj K D odx "__class__" = some (.bind (.builtin "getset_descriptor.__get__") (.builtin "object.__class__")) := xs_findObj (by obtain ⟨cd, hc, _⟩ := any_some hdct; rw [hc]; rfl) ha hn htk
  obtain ⟨hp, g, d, t, os⟩ := s
  have L0 := I.type (M := model prog w)
  have L1 := looks_findIn (M := model prog w) X hga
  have L2 := looks_findIn (M := model prog w) X hgt
  have L3 := looks_find (M := model prog w) X I hf
  have sub : Looks (model prog w) hp (isInstance (.ref x) (.type "BaseException")) true := L0.andThen (looks_subIn X hsub)
  have hx0 : (false && onTheHeap (Value.builtin "BaseException.__getattribute__")) = false := rfl
  have hx2 : (Value.builtin "BaseException.__getattribute__" == Value.builtin "object.__getattribute__") = false := by decide +kernel
  have hx1 : (onTheHeap (Value.ref D) && Value.builtin "BaseException.__getattribute__" == Value.builtin "object.__getattribute__") = false := by rw [hx2]; rfl
  unfold getAttr? getAttrBy? getAttrBy
  refine wpAny_bind (wpAny_mkText (wpAny_bind (wpAny_attempt (wpAny_holding (wpAny_bind (L0.at (wpAny_bind (L1.at ?_))))))))
  show wpAny _ _ (if (onTheHeap (Value.ref D) && Value.builtin "BaseException.__getattribute__" == Value.builtin "object.__getattribute__") = true then _ else _) _ _ _
  rw [hx1, if_neg Bool.false_ne_true]
  unfold getAttrByItsOwn hookBefore
  refine wpAny_bind ?_
  rw [if_pos (show onTheHeap (Value.ref D) = true from rfl)]
  refine L2.at ?_
  refine wpAny_bind (wpAny_attempt (wpAny_holding ?_))
  unfold callGetattribute
  rw [hx0, if_neg Bool.false_ne_true]
  unfold boundAndCalled
  rw [PySem.F.excAttr_ValueError.ga.bind (.ref x)]
  refine wpAny_bind (wpAny_pure ?_)
  show wpAny _ _ (call (.builtin "BaseException.__getattribute__") [.ref x, .str "__class__" t]) _ _ _
  refine wpAny_call (codeAny_call_builtin PySem.F.excAttr_ValueError.ga.plain PySem.F.entry_bexc_ga ?_)
  refine @check_slot (model prog w) _ _ ⟨hp, g, d, t + 1, os⟩ "BaseException.__getattribute__" "BaseException" "__getattribute__" (.ref x) [.str "__class__" t] [] _ (by decide +kernel) (by decide +kernel) sub (PySem.F.args_bexc_ga (.ref x) (.str "__class__" t)) ?_
  unfold Builtin.«object.__getattribute__»
  refine wpAny_bind (wpAny_of_eq (a := ((Value.ref x : Value), [Value.str "__class__" t])) (by first | rfl | (simp only [slotArgs]; rfl)) ?_)
  refine wpAny_bind (wpAny_pure (wpAny_bind (L0.at (wpAny_bind (L3.at ?_)))))
  show wpAny _ _ (holding [Value.builtin "object.__class__"] (call (.builtin "getset_descriptor.__get__") [.builtin "object.__class__", .ref x, .ref D]) >>= ret) _ _ _
  refine wpAny_bind (wpAny_holding (wpAny_call (class_get (s := ⟨hp, g, d, t + 1, os⟩) (ox := ox) (od := odx) X I hm ?_)))
  refine wpAny_pure ?_
  show wpAny _ _ (handedOut (.ref D)) _ _ _
  rw [handedOut_of (v := .ref D) rfl]
  first
    | exact wpAny_pure (wpAny_pure h)
    | exact wpAny_pure h
    | exact wpAny_pure (wpAny_bind (wpAny_pure (wpAny_pure h)))
theorem xs_kitx {odx : Option Obj} (hga : findIn K (.ref D) "__getattribute__" = some (some (.builtin "BaseException.__getattribute__"))) (hgt : findIn K (.ref D) "__getattr__" = some none) (hsub : subIn K (.ref D) (.type "BaseException") = some true) (hdct : hasDictIn K D = true) (ha : findIn K (.ref D) "__class__" = some (some (.builtin "object.__class__")))
    (hn : specialIn K (.builtin "object.__class__") "__get__" = some (some (.builtin "getset_descriptor.__get__"))) (htk : takesIn K (.builtin "object.__class__") = some true) (hm : mroIn K D (.type "object") = some true) :
    KitX K (.ref x) (.ref D) (fun h => InstAt h x ox D odx) where
  ty := fun _ _ _ I => I.type
  it := fun _ _ X _ => by
    obtain ⟨cdD, hcD, _⟩ := any_some hdct
    unfold clsIn at hcD
    split at hcD
    · rename_i c' d' cd' sl' ho
      intro A' Q' E' s' k q
      unfold isType loadHead
      exact wpAny_bind (wpAny_loadPart (k _ _ (X _ _ ho)) (wpAny_pure q))
    · cases hcD
  ne := fun h tp dd its n sl X htp => by
    obtain ⟨cdD, hcD, _⟩ := any_some hdct
    refine Bool.eq_false_iff.mpr fun q => ?_
    have e : D = tp := Value.ref.inj (beq_iff_eq.mp q)
    subst e
    unfold clsIn at hcD
    split at hcD
    · rename_i c' d' cd' sl' ho
      have z := (X _ _ ho).symm.trans htp
      cases z
    · cases hcD
  ca := fun X I k => xs_class hga hgt hsub hdct ha hn htk hm X I k
end
end PySem.W
namespace L2
open PySem PySem.Spec PyProof.Rows
/-- isinstance(e, c), e the exception that the suite holds, with fields of its own -/
def rIsED (K : PySem.W.Frag) (D a : Addr) (cls : Value) (d : Option Addr) : List V → Hp → VK → Prop := fun xs H Q => ∃ (c : V) (cv : Value) (b : Bool) (dd : Addr) (fs : List (Str × V)), cls = .ref D ∧ d = some dd ∧ xs = [.ref a, c] ∧ (∀ u, RelV c u → u = cv) ∧ H dd = some (.xd fs) ∧ PySem.W.kitOne K (.ref D) cv = some b ∧ Q (.bl b) H
theorem call_isED {X : Cx} {a D : Addr} {oe : Obj} {cls : Value} {d : Option Addr} {pn : List (Addr × Obj)} (C : ExcC X.K D) (hz : Zc cls d oe) (hf : ∃ vs, oe.data = .fields vs) : CallR (X.suite a ((a, oe) :: pn)) (.builtin "isinstance") (rIsED X.K D a cls d) := by
  intro pins s σ H xs us Q I r h
  obtain ⟨c, cv, b, dd, fs, rfl, rfl, rfl, hcv, hdd, e, q⟩ := h
  cases r with
  | cons rx rr =>
    cases rr with
    | cons rt rr =>
      cases rr
      cases rx
      have ec := hcv _ rt
      subst ec
      obtain ⟨hget, _⟩ := I.pin (a, oe) (List.mem_append.mpr (.inl List.mem_cons_self))
      obtain ⟨vs, hv⟩ := hf
      have hx : ObjOk X.prog X.w H s.heap dd (.xd fs) := I.hok dd _ hdd
      obtain ⟨mA, hns, hr⟩ := hx
      obtain ⟨od, ho, hl⟩ := lookIn_ns hns
      have J : PySem.W.InstAt s.heap a oe D (some od) := ⟨hget, hz.1, by unfold PySem.W.notCls; rw [hv] <;> rfl, by rw [hz.2]; exact ho⟩
      exact PySem.W.kia_one (PySem.W.xs_kitx C.hg C.hk C.hs C.hd C.ha C.hn C.ht C.hm) I.kIn J e (fun z => nomatch z) fun tk => ⟨.bl b, H, I.kept (t' := tk) fun _ _ z => z, rfl, q⟩
end L2
/-! own text: a dict whose keys are pairs of a mark (is it a bool?) and a key: null, a bool, a number, a text -/
namespace XT
open PySem PySem.Spec PyProof.Rows L2
def fk : V → NestedKey
  | .bl b => .num (if b = true then 1 else 0) | .int i => .num i | .str x => .text x | _ => .none
def isB : V → Bool
  | .bl _ => true | _ => false
def tk (k : V) : NestedKey := .tup [.num (if isB k = true then 1 else 0), fk k]
def keyOk : V → Bool
  | .non | .bl _ | .int _ | .str _ => true | _ => false
theorem tk_inj {a b : V} (ha : keyOk a = true) (hb : keyOk b = true) (h : tk a = tk b) : a = b := by
  unfold tk at h
  injection h with h
  injection h with h1 h2
  injection h2 with h2 _
  injection h1 with h1
  cases a <;> cases b <;> simp_all [fk, isB, keyOk]
  case bl.bl x y => cases x <;> cases y <;> simp_all
theorem tk_depth (k : V) : (tk k).depth ≤ 8 := by
  cases k <;> simp [tk, fk, NestedKey.depth, NestedKey.depthAll]
abbrev Ent := V × Addr × V
abbrev EV : List Ent → List (NestedKey × Addr × Value) → Prop := Paired fun p q => tk p.1 = q.1 ∧ p.2.1 = q.2.1 ∧ RelV p.2.2 q.2.2
def TabO (P : Program) (w : World) (a : Addr) (es : List Ent) : HO := .ext fun h => (a == sysModules) = false ∧ ∃ xs o ds ep, EV es xs ∧ h.get? a = some o ∧ o.ExactDict ∧ o.data = .dict ds ep ∧ ds.toList = xs.map (entryOfKey (nestedKind P w)) ∧ (xs.map (·.1)).Nodup
structure TabAt (P : Program) (w : World) (H : Hp) (a : Addr) (es : List Ent) : Prop where
  at_ : H a = some (TabO P w a es)
  keys : ∀ e ∈ es, keyOk e.1 = true ∧ H e.2.1 = some (.tup [.bl (isB e.1), e.1])
  len : es.length ≤ 1000000
def valT (es : List Ent) (k : V) : Option V := (es.find? fun e => decide (e.1 = k)).map (·.2.2)
def putT (es : List Ent) (k : V) (b : Addr) (v : V) : List Ent := if (valT es k).isSome = true then es.map (fun e => if e.1 = k then (e.1, e.2.1, v) else e) else es ++ [(k, b, v)]
def dropT (es : List Ent) (k : V) : List Ent := es.filter fun e => decide (e.1 ≠ k)
theorem key_is {P : Program} {w : World} {H : Hp} {h : Heap} {b : Addr} {k : V} (ok : HOk P w H h) (hk : keyOk k = true) (e : H b = some (.tup [.bl (isB k), k])) : (nestedKind P w).is h (tk k) b := by
  obtain ⟨_, its, r, o, h1, h2, n, h3⟩ := (show ObjOk P w H h b (.tup [.bl (isB k), k]) from ok b _ e)
  refine ⟨.tup h1 h2 h3 ?_, tk_depth k⟩
  cases r with
  | cons r1 r2 =>
    cases r2 with
    | cons r2 r3 =>
      cases r3
      cases (show _ = Value.bool (isB k) from r1)
      refine .cons (.bool rfl) (.cons ?_ .nil)
      cases k with
      | non => cases (show _ = Value.none from r2); exact .none
      | bl b => cases (show _ = Value.bool b from r2); exact .bool rfl
      | int i => obtain ⟨t, rfl⟩ := r2; exact .int i t
      | str x => obtain ⟨t, rfl⟩ := r2; exact .text x t
      | _ => exact nomatch hk
theorem EV.val {es : List Ent} {xs : List (NestedKey × Addr × Value)} (r : EV es xs) {k : V} (hk : keyOk k = true) (he : ∀ e ∈ es, keyOk e.1 = true) : RelO (valT es k) ((atKey xs (tk k)).map (·.2)) := by
  induction r with
  | nil => exact True.intro
  | @cons p q ps qs h t ih =>
    obtain ⟨h1, _, h2⟩ := h
    have ih := ih fun e m => he e (List.mem_cons_of_mem _ m)
    unfold valT at ih ⊢
    by_cases e : p.1 = k
    · have e' : q.1 = tk k := by rw [← h1, e]
      have b : atKey (q :: qs) (tk k) = some q.2 := by simp [atKey, List.find?_cons, e']
      rw [b, List.find?_cons, show decide (p.1 = k) = true from decide_eq_true e]
      exact h2
    · have e' : ¬ q.1 = tk k := fun z => e (tk_inj (he p (List.mem_cons_self ..)) hk (h1.trans z))
      have b : atKey (q :: qs) (tk k) = atKey qs (tk k) := by simp [atKey, List.find?_cons, e']
      rw [b, List.find?_cons, show decide (p.1 = k) = false from decide_eq_false e]
      exact ih
theorem EV.put {es : List Ent} {xs : List (NestedKey × Addr × Value)} (r : EV es xs) {k : V} {b : Addr} {v : V} {u : Value} (hk : keyOk k = true) (he : ∀ e ∈ es, keyOk e.1 = true) (rv : RelV v u) : EV (putT es k b v) (storedH xs (tk k) b u) := by
  have e : (valT es k).isSome = (atKey xs (tk k)).isSome := by
    rw [(r.val hk he).isSome_eq, Option.isSome_map]
  unfold putT storedH
  rw [e]
  by_cases q : (atKey xs (tk k)).isSome = true
  · rw [if_pos q, if_pos q]
    clear e q
    induction r with
    | nil => exact .nil
    | @cons p q ps qs h t ih =>
      rw [List.map_cons, List.map_cons]
      refine .cons ?_ (ih fun e m => he e (List.mem_cons_of_mem _ m))
      obtain ⟨h1, h2, h3⟩ := h
      unfold putAt
      by_cases e : p.1 = k
      · rw [if_pos e, if_pos (by rw [← h1, e])]
        exact ⟨h1, h2, rv⟩
      · rw [if_neg e, if_neg (fun z => e (tk_inj (he p (List.mem_cons_self ..)) hk (h1.trans z)))]
        exact ⟨h1, h2, h3⟩
  · rw [if_neg q, if_neg q]
    exact Paired.snoc r ⟨rfl, rfl, rv⟩
theorem EV.drop {es : List Ent} {xs : List (NestedKey × Addr × Value)} (r : EV es xs) {k : V} (hk : keyOk k = true) (he : ∀ e ∈ es, keyOk e.1 = true) : EV (dropT es k) (withoutH xs (tk k)) := by
  unfold dropT withoutH
  induction r with
  | nil => exact .nil
  | @cons p q ps qs h t ih =>
    have ih := ih fun e m => he e (List.mem_cons_of_mem _ m)
    obtain ⟨h1, h2, h3⟩ := h
    rw [List.filter_cons, List.filter_cons]
    by_cases e : p.1 = k
    · have a : ¬ decide (p.1 ≠ k) = true := by simp [e]
      have b : ¬ decide (q.1 ≠ tk k) = true := by simp [← h1, e]
      rw [if_neg a, if_neg b]
      exact ih
    · have e' : ¬ q.1 = tk k := fun z => e (tk_inj (he p (List.mem_cons_self ..)) hk (h1.trans z))
      have a : decide (p.1 ≠ k) = true := by simp [e]
      have b : decide (q.1 ≠ tk k) = true := by simp [e']
      rw [if_pos a, if_pos b]
      exact .cons ⟨h1, h2, h3⟩ ih
theorem TabAt.have {P : Program} {w : World} {H : Hp} {h : Heap} {a : Addr} {es : List Ent} (T : TabAt P w H a es) (ok : HOk P w H h) : (a == sysModules) = false ∧ ∃ xs, EV es xs ∧ h.DictOfH (nestedKind P w) a xs := by
  obtain ⟨⟨hs, xs, o, ds, ep, r, h1, h2, h3, h4, h5⟩, _, _⟩ := (show ObjOk P w H h a (TabO P w a es) from ok a _ T.at_)
  refine ⟨hs, xs, r, o, ds, ep, h1, h2, h3, h4, ?_, h5⟩
  have all : ∀ {l : List Ent} {m : List (NestedKey × Addr × Value)}, EV l m → (∀ e ∈ l, keyOk e.1 = true ∧ H e.2.1 = some (.tup [.bl (isB e.1), e.1])) → ∀ x ∈ m, (nestedKind P w).is h x.1 x.2.1 := by
    intro l m q
    induction q with
    | nil => intro _ x hx; exact nomatch hx
    | @cons p q ps qs hq t ih =>
      intro hl x hx
      rcases List.mem_cons.mp hx with e | hx
      · subst e
        have := hl p (List.mem_cons_self ..)
        rw [← hq.1, ← hq.2.1]
        exact key_is ok this.1 this.2
      · exact ih (fun e m => hl e (List.mem_cons_of_mem _ m)) x hx
  exact all r T.keys
theorem tab_new {P : Program} {w : World} {H : Hp} {h : Heap} {a : Addr} {es : List Ent} {xs : List (NestedKey × Addr × Value)} (hs : (a == sysModules) = false) (r : EV es xs) (d : h.DictOfH (nestedKind P w) a xs) : ObjOk P w H h a (TabO P w a es) := by
  obtain ⟨o, ds, ep, h1, h2, h3, h4, _, h5⟩ := d
  exact ⟨⟨hs, xs, o, ds, ep, r, h1, h2, h3, h4, h5⟩, ⟨o, h1⟩, fun g1 g2 ⟨_, xs', o', ds', ep', r', k1, k2⟩ st => ⟨hs, xs', o', ds', ep', r', st _ k1, k2⟩⟩
theorem room_in1 {A : Around} (hu : A.units + 64 < cLine) {P : Program} {w : World} : (nestedKind P w).room A.in1 := by
  show A.in1.units + 8 < cLine
  have : A.in1.units = A.units + 1 := by first | rfl | simp [Around.in1]
  omega
/-! ### the rules -/
def KeyAt (H : Hp) (b : Addr) (k : V) : Prop := keyOk k = true ∧ H b = some (.tup [.bl (isB k), k])
theorem TabAt.put {P : Program} {w : World} {H : Hp} {a b : Addr} {es : List Ent} {k v : V} (T : TabAt P w H a es) (hk : KeyAt H b k) (hl : es.length < 1000000) : TabAt P w (upd H a (TabO P w a (putT es k b v))) a (putT es k b v) := by
  have ne : ∀ {c : Addr} {ys : List V}, H c = some (.tup ys) → c ≠ a := fun {c ys} e z => by
    rw [z, T.at_] at e
    cases e
  refine ⟨upd_same, fun e he => ?_, ?_⟩
  · have all : keyOk e.1 = true ∧ H e.2.1 = some (.tup [.bl (isB e.1), e.1]) := by
      unfold putT at he
      split at he
      · obtain ⟨e0, h0, e1⟩ := List.mem_map.mp he
        have := T.keys e0 h0
        split at e1
        · subst e1
          exact this
        · subst e1
          exact this
      · rcases List.mem_append.mp he with he | he
        · exact T.keys e he
        · rw [List.mem_singleton] at he
          subst he
          exact hk
    exact ⟨all.1, by rw [upd_ne (ne all.2)]; exact all.2⟩
  · unfold putT
    split
    · rw [List.length_map]
      exact T.len
    · rw [List.length_append, List.length_singleton]
      omega
theorem TabAt.drop {P : Program} {w : World} {H : Hp} {a : Addr} {es : List Ent} {k : V} (T : TabAt P w H a es) : TabAt P w (upd H a (TabO P w a (dropT es k))) a (dropT es k) := by
  have ne : ∀ {c : Addr} {ys : List V}, H c = some (.tup ys) → c ≠ a := fun {c ys} e z => by
    rw [z, T.at_] at e
    cases e
  refine ⟨upd_same, fun e he => ?_, Nat.le_trans (List.length_filter_le _ _) T.len⟩
  have := T.keys e (List.mem_filter.mp he).1
  exact ⟨this.1, by rw [upd_ne (ne this.2)]; exact this.2⟩
theorem TabAt.mono {P : Program} {w : World} {H H' : Hp} {a : Addr} {es : List Ent} (T : TabAt P w H a es) (h1 : H' a = H a) (h2 : ∀ c ys, H c = some (.tup ys) → H' c = some (.tup ys)) : TabAt P w H' a es :=
  ⟨h1.trans T.at_, fun e he => ⟨(T.keys e he).1, h2 _ _ (T.keys e he).2⟩, T.len⟩
theorem sz_ok {es : List Ent} {xs : List (NestedKey × Addr × Value)} (r : EV es xs) (h : es.length ≤ 1000000) : xs.length ≤ sizeLine := by
  rw [← Paired.length r, sizeLine_eq]
  omega
section
variable {X : Cx} {o i value : Expr} {pos pos' tpos : Pos} {td ty tv : TE}
def tTNew (P : Program) (w : World) : TE := fun _ H Q => ∀ p, H p = none → Q (.ref p) (upd H p (TabO P w p []))
def tTGet (P : Program) (w : World) (td ty : TE) : TE := fun σ H Q => td σ H fun x H1 => ty σ H1 fun y H2 => ∃ a b k es v, x = .ref a ∧ y = .ref b ∧ TabAt P w H2 a es ∧ KeyAt H2 b k ∧ valT es k = some v ∧ Q v H2
def tTIn (P : Program) (w : World) (ty td : TE) : TE := fun σ H Q => ty σ H fun y H1 => td σ H1 fun x H2 => ∃ a b k es, x = .ref a ∧ y = .ref b ∧ TabAt P w H2 a es ∧ KeyAt H2 b k ∧ Q (.bl (valT es k).isSome) H2
def sTPut (P : Program) (w : World) (td ty tv : TE) : TS := fun D σ H => tv σ H fun v H1 => td σ H1 fun x H2 => ty σ H2 fun y H3 => ∃ a b k es, x = .ref a ∧ y = .ref b ∧ TabAt P w H3 a es ∧ KeyAt H3 b k ∧ D.nx σ (upd H3 a (TabO P w a (putT es k b v)))
def sTDel (P : Program) (w : World) (td ty : TE) : TS := fun D σ H => td σ H fun x H1 => ty σ H1 fun y H2 => ∃ a b k es, x = .ref a ∧ y = .ref b ∧ TabAt P w H2 a es ∧ KeyAt H2 b k ∧ (valT es k).isSome = true ∧ D.nx σ (upd H2 a (TabO P w a (dropT es k)))
theorem pe_tnew : PE X (.Dict [] [] pos) (tTNew X.prog X.w) := ⟨fun pins s σ H Q I h =>
  wpAny_Dict_empty ⟨.ref s.heap.objs.size, _, I.laid (a := s.heap.objs.size) (o := TabO X.prog X.w s.heap.objs.size []) (t' := s.toks) (fun _ _ q => Heap.get?_push_of_some _ q) (Nat.le_refl _)
    (tab_new (beq_eq_false_iff_ne.mpr (Ne.symm (Nat.ne_of_lt I.big))) .nil (Heap.DictOfH.new _)), rfl, h _ (I.hok.fresh (Nat.le_refl _))⟩⟩
theorem pe_tget (hu : X.A.units + 64 < cLine) (ho : PE X o td) (hi : PE X i ty) (hs : NoSl i) : PE X (.Subscript o i pos) (tTGet X.prog X.w td ty) := by
  refine ⟨fun pins s σ H Q I h => ?_⟩
  refine subD_of PySem.F.slot_dict_getitem.lookup hs (thn (ho.run pins s σ H _ I h) fun u s1 ⟨x, H1, I1, rx, q1⟩ => thn (hi.run pins s1 σ H1 _ I1 q1) fun iv s2 ⟨y, H2, I2, ry, a, b, k, es, v, ex, ey, T, hk, hv, q2⟩ => ?_)
  subst ex ey
  obtain rfl : u = Value.ref a := rx
  obtain rfl : iv = Value.ref b := ry
  obtain ⟨hd, xs, r, dd⟩ := T.have I2.hok
  obtain ⟨w', hw, rw'⟩ := RelO.some_of (v := v) (o := (atKey xs (tk k)).map (·.2)) (by rw [← hv]; exact r.val hk.1 fun e m => (T.keys e m).1)
  obtain ⟨p, hp, hp2⟩ := Option.map_eq_some_iff.mp hw
  refine ⟨dd.typeIs, wpAny_getItem_heap (room_in1 hu) (key_is I2.hok hk.1 hk.2) dd hp ?_⟩
  rw [hp2]
  exact ⟨v, H2, I2.tok _, rw', q2⟩
theorem pc_tin (hu : X.A.units + 64 < cLine) (hi : PE X i ty) (ho : PE X o td) : PC X .In i o (tTIn X.prog X.w ty td) := by
  refine ⟨fun pins s σ H Q I h => ?_⟩
  refine thn (hi.run pins s σ H _ I h) fun iv s1 ⟨y, H1, I1, ry, q1⟩ => thn (ho.run pins s1 σ H1 _ I1 q1) fun u s2 ⟨x, H2, I2, rx, a, b, k, es, ex, ey, T, hk, q2⟩ => ?_
  subst ex ey
  obtain rfl : u = Value.ref a := rx
  obtain rfl : iv = Value.ref b := ry
  obtain ⟨hd, xs, r, dd⟩ := T.have I2.hok
  refine wpAny_in_heap (room_in1 hu) (key_is I2.hok hk.1 hk.2) hd dd ?_
  have q := (r.val hk.1 fun e m => (T.keys e m).1).isSome_eq
  rw [Option.isSome_map] at q
  rw [← q]
  exact ⟨.bl (valT es k).isSome, H2, I2.tok _, rfl, q2⟩
theorem ps_tput (hu : X.A.units + 64 < cLine) (ho : PE X o td) (hi : PE X i ty) (hv : PE X value tv) (hs : swapsWith value (some (.Subscript o i pos')) pos.line X.env = pure false) :
    PS X (.Assign [.Subscript o i pos'] value pos) (sTPut X.prog X.w td ty tv) := by
  refine ⟨fun pins s σ H D I h => ?_⟩
  refine wpAny_Assign_Subscript (thn (hv.run pins s σ H _ I h) fun r s1 ⟨v, H1, I1, rv, q1⟩ => thn (ho.run pins s1 σ H1 _ I1 q1) fun u s2 ⟨x, H2, I2, rx, q2⟩ => thn (hi.run pins s2 σ H2 _ I2 q2) fun iv s3 ⟨y, H3, I3, ry, a, b, k, es, ex, ey, T, hk, q3⟩ => ?_) hs
  subst ex ey
  obtain rfl : u = Value.ref a := rx
  obtain rfl : iv = Value.ref b := ry
  obtain ⟨hd, xs, rr, dd⟩ := T.have I3.hok
  refine wpAny_setItem_heap (hsz := sz_ok rr T.len) (room_in1 hu) (key_is I3.hok hk.1 hk.2) dd fun h' dd' hsb => ?_
  have he : ∃ q, h'.get? a = some q := let ⟨q, _, _, hq, _⟩ := dd'; ⟨q, hq⟩
  exact ⟨σ, _, d_write I3 (by rw [T.at_]; exact True.intro) hsb he (tab_new hd (rr.put hk.1 (fun e m => (T.keys e m).1) rv) dd'), q3⟩
theorem ps_tdel (hu : X.A.units + 64 < cLine) (ho : PE X o td) (hi : PE X i ty) : PS X (.Delete [.Subscript o i tpos] pos) (sTDel X.prog X.w td ty) := by
  refine ⟨fun pins s σ H D I h => ?_⟩
  refine wpAny_Delete (wpAny_deleteEach_cons (wpAny_delete_Subscript (thn (ho.run pins s σ H _ I h) fun u s1 ⟨x, H1, I1, rx, q1⟩ => thn (hi.run pins s1 σ H1 _ I1 q1) fun iv s2 ⟨y, H2, I2, ry, a, b, k, es, ex, ey, T, hk, hv, q2⟩ => ?_)))
  subst ex ey
  obtain rfl : u = Value.ref a := rx
  obtain rfl : iv = Value.ref b := ry
  obtain ⟨hd, xs, rr, dd⟩ := T.have I2.hok
  have he1 : ∀ e ∈ es, keyOk e.1 = true := fun e m => (T.keys e m).1
  obtain ⟨p, hp⟩ : ∃ p, atKey xs (tk k) = some p := by
    have q := (rr.val hk.1 he1).isSome_eq
    rw [Option.isSome_map, hv] at q
    exact Option.isSome_iff_exists.mp q.symm
  refine wpAny_delItem_heap (hsz := sz_ok rr T.len) (room_in1 hu) (key_is I2.hok hk.1 hk.2) hd dd hp fun h' dd' hsb => wpAny_deleteEach_nil ?_
  have he : ∃ q, h'.get? a = some q := let ⟨q, _, _, hq, _⟩ := dd'; ⟨q, hq⟩
  exact ⟨σ, _, d_write I2 (by rw [T.at_]; exact True.intro) hsb he (tab_new hd (rr.drop hk.1 he1) dd'), q2⟩
/-- len(d) -/
theorem call_len_tab : CallR X (.builtin "len") (fun vs H Q => ∃ a es, vs = [.ref a] ∧ TabAt X.prog X.w H a es ∧ Q (.int (es.length : Nat)) H) := by
  intro pins s σ H vs us Q I rv h
  obtain ⟨a, es, rfl, T, q⟩ := h
  obtain ⟨u, rfl, ru⟩ := rv.one
  obtain rfl : u = Value.ref a := ru
  obtain ⟨hd, xs, r, dd⟩ := T.have I.hok
  have hz := sz_ok r T.len
  refine call_len_dictH hd dd (by rw [sizeLine_eq] at hz; omega) ?_
  rw [← Paired.length r]
  exact ⟨.int _, H, I.tok _, ⟨_, rfl⟩, q⟩
end
end XT
/-! own text: the values of such a dict, as a list -/
namespace XT
open PySem PySem.Spec PyProof.Rows L2
def ViewO (d v : Addr) : HO := .ext fun h => h.IsValuesView v d
theorem EV.vals {es : List Ent} {xs : List (NestedKey × Addr × Value)} (r : EV es xs) : Vals (es.map (·.2.2)) (xs.map (·.2.2)) := by
  induction r with
  | nil => exact .nil
  | cons h t ih => exact .cons h.2.2 ih
section
variable {prog : Program} {w : World} {A : Around} {E : Value → Shared → Prop} {s : Shared}
theorem meets_vals (d : Addr) (hd : (d == sysModules) = false) :
    MeetsIn prog w (Builtin.«dict.values» ⟨[.ref d], []⟩) (fun _ R s => s.TypeIs (.ref d) "dict" ∧
      R (.ok (.ret (.ref s.heap.objs.size))) { s with heap := s.heap.push { cls := .type "dict_values", data := .fields #[.ref d] } }) :=
  .of_wp fun A R s ⟨hm, h⟩ => by
    refine wpAny_bind ?_
    unfold Builtin.Dict.noArgs
    refine wpAny_bind (wpAny_notOrdered_dict hm ?_)
    show wpAny _ _ (pure d) _ _ s
    refine wpAny_pure ?_
    show wpAny _ _ (Builtin.Dict.showsAll d >>= _) _ _ s
    unfold Builtin.Dict.showsAll
    rw [if_neg (by rw [hd]; exact Bool.false_ne_true)]
    refine wpAny_bind (wpAny_pure ?_)
    exact wpAny_bind (wpAny_newObj_type (wpAny_pure ⟨_, rfl, h⟩))
end
section
variable {X : Cx} {o : Expr} {to : TE} {apos cpos : Pos}
def tTVals (P : Program) (w : World) (to : TE) : TE := fun σ H Q => to σ H fun x H1 => ∃ a es, x = .ref a ∧ TabAt P w H1 a es ∧ ∀ v, H1 v = none → Q (.ref v) (upd H1 v (ViewO a v))
theorem pe_tvals (ho : PE X o to) (hbase : attributeBase o "values" X.env (eval o X.env) = eval o X.env := by rfl) (hline : (apos.endLine == cpos.line) = true := by rfl) : PE X (.Call (.Attribute o "values" apos) [] [] cpos) (tTVals X.prog X.w to) := by
  refine ⟨fun pins s σ H Q I h => ?_⟩
  refine wpAny_Call_method0_late hbase hline (thn (ho.run pins s σ H _ I h) fun v s1 ⟨x, H1, I1, r1, a, es, ex, T, q1⟩ => ?_)
  subst ex
  obtain rfl : v = Value.ref a := r1
  obtain ⟨hd, xs, r, dd⟩ := T.have I1.hok
  refine ⟨"dict", "dict.values", PySem.F.plainAttrs_dict, PySem.F.slot_dict_values, PySem.F.type_dict_values, dd.typeIs, fun b e => ?_, Calls.callWith_builtin rfl (PySem.evalArgs_none ?_)⟩
  · cases e
    obtain ⟨ob, _, _, h1, h2, _⟩ := dd
    exact ⟨ob, h1, h2.2.1⟩
  refine call_meetsIn PySem.F.slot_dict_values dd.typeIs PySem.F.entry_dict_values (PySem.F.args_dict_values_1 _) (meets_vals a hd) ⟨dd.typeIs, ?_⟩
  have hv : (s1.heap.push { cls := .type "dict_values", data := .fields #[.ref a] }).IsValuesView s1.heap.objs.size a := ⟨_, Heap.get?_push_size _ rfl, rfl, rfl⟩
  refine ⟨.ref s1.heap.objs.size, _, I1.laid (a := s1.heap.objs.size) (o := ViewO a s1.heap.objs.size) (t' := s1.toks) (fun _ _ q => Heap.get?_push_of_some _ q) (Nat.le_refl _) ?_, rfl, q1 _ (I1.hok.fresh (Nat.le_refl _))⟩
  exact ⟨hv, ⟨_, Heap.get?_push_size _ rfl⟩, fun g1 g2 ⟨ob, k1, k2⟩ st => ⟨ob, st _ k1, k2⟩⟩
/-- list(d.values()) -/
theorem call_list_vals (hc : X.calm = true) : CallR X (.type "list") (fun vs H Q => ∃ v a es, vs = [.ref v] ∧ H v = some (ViewO a v) ∧ TabAt X.prog X.w H a es ∧ ∀ l, H l = none → Q (.ref l) (upd H l (.lst (es.map (·.2.2))))) := by
  intro pins s σ H vs us Q I rv h
  obtain ⟨v, a, es, rfl, hv, T, q⟩ := h
  obtain ⟨u, rfl, ru⟩ := rv.one
  obtain rfl : u = Value.ref v := ru
  obtain ⟨hd, xs, r, ob, ds, ep, h1, h2, h3, h4, h5, h6⟩ := T.have I.hok
  obtain ⟨hview, _, _⟩ := (show ObjOk X.prog X.w H s.heap v (ViewO a v) from I.hok v _ hv)
  have hview : s.heap.IsValuesView v a := hview
  have hsz : ds.size = xs.length := by
    rw [← Array.length_toList, h4, List.length_map]
  have hz := sz_ok r T.len
  refine W.kdl_call PySem.KdlSrc.rawValues (I.ok.hd hc) ⟨hview, ob, h1, h2, h3⟩ (by omega) fun h' tk acc' c' hk hS hacc => ?_
  have ea : acc'.toList = xs.map (·.2.2) := by
    refine List.ext_getElem? fun j => ?_
    by_cases hj : j < ds.size
    · have hj' : j < acc'.size := by rw [hacc.1]; exact hj
      obtain ⟨hi, e⟩ := hacc.2 j acc'[j] (by rw [Array.getElem?_eq_getElem hj'])
      have e2 : ds.toList[j]? = (xs.map (entryOfKey (nestedKind X.prog X.w)))[j]? := by rw [h4]
      rw [List.getElem?_map, Array.getElem?_toList, Array.getElem?_eq_getElem hj] at e2
      rw [Array.getElem?_toList, Array.getElem?_eq_getElem hj', e, List.getElem?_map]
      cases hx : xs[j]? with
      | none => rw [hx] at e2; cases e2
      | some x =>
        rw [hx] at e2
        rw [Option.some.inj e2]
        rfl
    · rw [List.getElem?_eq_none (by rw [Array.length_toList, hacc.1]; omega), List.getElem?_eq_none (by rw [List.length_map]; omega)]
  refine ⟨.ref s.heap.objs.size, _, I.laid (t' := tk) hk (Nat.le_refl _) (show ObjOk X.prog X.w _ h' _ (.lst (es.map (·.2.2))) from ⟨?_, acc'.toList, c', ?_, ?_⟩), rfl, q _ (I.hok.fresh (Nat.le_refl _))⟩
  · rw [List.length_map, Paired.length r]
    exact hz
  · rw [ea]
    exact r.vals
  · rw [Array.toArray_toList]
    exact hS
end
end XT
/-! own text: an own exception with an __init__ of its own as a value that is kept -/
namespace XE
open PySem PySem.Spec PyProof.Rows L2
/-- the exception at a, of the class at C, its dict at d -/
structure ExAt (H : Hp) (a C d : Addr) (fs : List (Str × V)) : Prop where
  e : H a = some (exo a C (some d))
  d : H d = some (exd d fs)
def tMkE (C : Addr) (sp : Sp) (dvs : List V) (ta : TA) : TE := fun σ H Q => ta σ H fun vs H1 => vs.length ≤ 1000 ∧ ∀ a, H1 a = none → sp (.ref a :: (vs ++ dvs)) (upd H1 a (exo a C none)) (fun v H2 => v = .non ∧ Q (.ref a) H2) (fun _ _ _ => False)
section
variable {X : Cx} {e : Expr} {es : List Expr} {ta : TA} {te : TE} {p pos : Pos}
theorem pe_mkE {CX : CXT} {x : Str} {C fI : Addr} {k : Nat} {fd : FuncData} {ps : List Str} {sp : Sp} {ds : List Value} {dvs : List V} (T : OexC X.K C) (iC : PySem.W.findIn X.K (.ref C) "__init__" = some (some (.ref fI))) (tI : PySem.W.typeIn X.K (.ref fI) = some (.type "function"))
    (F1 : FnOk X.prog X.w X.K X.mg X.base CX k fI fd ps sp) (hr : Room (k + 1) X.A) (hb : Binds X.K fd ps ds) (hd : Vals dvs ds) (hx : Passes CX X (fun _ _ _ => False)) (hg : Gl X x) (hm : X.mg x = some (.ref C)) (ha : PA X (e :: es) ta)
    (hdb : (x == ("__debug__" : Str)) = false := by decide) (he : starEach (e :: es) X.env = (false, eval e X.env) :: starEach es X.env := by rfl) (hpl : (backTo pos (starEach es X.env)).any (·.1) = false := by rfl) :
    PE X (.Call (.Name x p) (e :: es) [] pos) (tMkE C sp dvs ta) := by
  refine ⟨fun pins s σ H Q I h => ?_⟩
  obtain ⟨nm, q, N, bs, bm, sn, sub, ab, col, dd, k0, k1, k2, k3, k5, hC, hbm⟩ := T.cls
  refine wpAny_Call_Name_kw (ld_glob I hg hm ?_ hdb)
  refine PySem.W.callWith_K (h₀ := X.base) I.ok.mod.kin T.kC (thn (ha.run pos pins s σ H _ I h) fun us s1 ⟨vs, H1, I1, r1, hz, q1⟩ => ⟨I1.kIn, ?_⟩) he hpl
  show wpAny _ _ (call (.ref C) us) _ _ _
  obtain ⟨hp, g, dr, tk, os⟩ := s1
  have hsz : hp.objs.size ≤ hp.objs.size + 1 := Nat.le_succ _
  have hn : H1 (hp.objs.size + 1) = none := I1.hok.fresh hsz
  have hq := q1 (hp.objs.size + 1) hn
  have kk : ∀ b o, hp.get? b = some o → ((hp.push (PySem.W.kdv_tup us)).push (PySem.HandSPX.excO C hp.objs.size)).get? b = some o := fun b o e => Heap.get?_push_of_some _ (Heap.get?_push_of_some _ e)
  have hget : ((hp.push (PySem.W.kdv_tup us)).push (PySem.HandSPX.excO C hp.objs.size)).get? (hp.objs.size + 1) = some (PySem.HandSPX.excO C hp.objs.size) := by heap_get
  have I2 : Inv X pins σ (upd H1 (hp.objs.size + 1) (exo (hp.objs.size + 1) C none)) ⟨(hp.push (PySem.W.kdv_tup us)).push (PySem.HandSPX.excO C hp.objs.size), g, dr, tk, os⟩ :=
    I1.laid (t' := tk) (a := hp.objs.size + 1) (o := exo (hp.objs.size + 1) C none) (h' := (hp.push (PySem.W.kdv_tup us)).push (PySem.HandSPX.excO C hp.objs.size)) kk hsz (exo_ok hget)
  have r2 : Vals (V.ref (hp.objs.size + 1) :: (vs ++ dvs)) (Value.ref (hp.objs.size + 1) :: (us ++ ds)) := .cons rfl (r1.append hd)
  have hl : (Value.ref (hp.objs.size + 1) :: us ++ ds).length = ps.length := by
    have e := r2.length
    rw [F1.len _ _ _ _ hq] at e
    exact e.symm
  have hus : us.length ≤ sizeLine := by
    rw [← Paired.length r1, sizeLine_eq]
    omega
  refine wpAny_call (PySem.HandSPX.call_own F.excBase_ValueError (fun Y => PySem.HandSPX.refsVE_contains Y bm hbm) (I1.kIn _ _ hC) (PySem.W.looks_findIn I1.kIn iC) (fun self => PySem.W.bind_fn I1.kIn self tI) hus
    (codeAny_mono (F1.run _ X.stack _ _ ⟨Value.ref (hp.objs.size + 1) :: us, []⟩ (Value.ref (hp.objs.size + 1) :: (us ++ ds)) _ _ (fun _ _ _ => False) (hr.make C us []) (I2.env0.make C us []) (hb _ (Value.ref (hp.objs.size + 1) :: us) I2.kIn hl) r2 hq) fun r s' hq' => ?_))
  cases r with
  | error er => exact hx pins σ _ _ er s' I2 hq'
  | ok fl =>
    cases fl with
    | ret u =>
      obtain ⟨v, H', I3, rv, ev, q3⟩ := I2.after hq'
      subst ev
      exact ⟨rv, ⟨V.ref (hp.objs.size + 1), H', I3, rfl, q3⟩⟩
    | next => exact False.elim hq'
    | brk => exact False.elim hq'
    | cont => exact False.elim hq'
/-- e.n -/
def tXo (C : Addr) (n : Str) (te : TE) : TE := fun σ H Q => te σ H fun x H1 => ∃ a d fs v, x = .ref a ∧ ExAt H1 a C d fs ∧ fs.lookup n = some v ∧ Q v H1
theorem pe_xo {C : Addr} {n : Str} (T : XfC X.K C) (hno : PySem.W.findIn X.K (.ref C) n = some none) (he : PE X e te) (hb : attributeBase e n X.env (eval e X.env) = eval e X.env := by rfl) : PE X (.Attribute e n pos) (tXo C n te) := by
  refine ⟨fun pins s σ H Q I h => ?_⟩
  refine attr_of hb (thn (he.run pins s σ H _ I h) fun u s1 ⟨x, H1, I1, rx, a, d, fs, v, ex, T1, l, q⟩ => ?_)
  subst ex
  obtain rfl : u = Value.ref a := rx
  obtain ⟨t1, hoe⟩ := exo_at I1.hok T1.e
  obtain ⟨mA, hns, hr⟩ := exd_at I1.hok T1.d
  obtain ⟨od, ho, hl⟩ := lookIn_ns hns
  obtain ⟨u, hu, ru⟩ := RelO.some_of (v := v) (o := mA n) (by rw [← l]; exact hr n)
  have J : PySem.W.InstAt s1.heap a _ C (some od) := ⟨hoe, rfl, rfl, ho⟩
  exact HandSPX.exc_get I1.kIn J T.ga T.gg T.exC (PySem.W.findObj_own T.hdC hno rfl (by rw [hl, hu])) (handed_of ru) ⟨v, H1, I1.tok _, ru, q⟩
/-- isinstance(e, c) -/
theorem call_isEO {D : Addr} (C : ExcC X.K D) : CallR X (.builtin "isinstance") (fun xs H Q => ∃ a d fs c cv b, xs = [.ref a, c] ∧ ExAt H a D d fs ∧ (∀ u, RelV c u → u = cv) ∧ PySem.W.kitOne X.K (.ref D) cv = some b ∧ Q (.bl b) H) := by
  intro pins s σ H xs us Q I r h
  obtain ⟨a, d, fs, c, cv, b, rfl, T1, hcv, e, q⟩ := h
  cases r with
  | cons rx rr =>
    cases rr with
    | cons rt rr =>
      cases rr
      cases rx
      have ec := hcv _ rt
      subst ec
      obtain ⟨t1, hoe⟩ := exo_at I.hok T1.e
      obtain ⟨mA, hns, hr⟩ := exd_at I.hok T1.d
      obtain ⟨od, ho, hl⟩ := lookIn_ns hns
      have J : PySem.W.InstAt s.heap a _ D (some od) := ⟨hoe, rfl, rfl, ho⟩
      exact PySem.W.kia_one (PySem.W.xs_kitx C.hg C.hk C.hs C.hd C.ha C.hn C.ht C.hm) I.kIn J e (fun z => nomatch z) fun tk => ⟨.bl b, H, I.kept (t' := tk) fun _ _ z => z, rfl, q⟩
end
end XE
/-! own text: del xs[lo:hi] of a list -/
namespace XD
open PySem PySem.Spec PyProof.Rows L2
open Sem (wp)
theorem keep_out {α : Type} (sel : Nat → Bool) (a c : Nat) (hs : ∀ k, sel k = (decide (a ≤ k) && decide (k < c))) : ∀ (xs : List α) (n : Nat),
    (xs.zipIdx n).filterMap (fun p => if sel p.2 = true then none else some p.1) = xs.take (a - n) ++ xs.drop (max (c - n) (a - n))
  | [], n => by simp
  | x :: xs, n => by
    rw [List.zipIdx_cons, List.filterMap_cons, keep_out sel a c hs xs (n + 1)]
    have hsn := hs n
    by_cases h1 : a ≤ n
    · by_cases h2 : n < c
      · rw [show sel n = true by rw [hsn]; simp [h1, h2]]
        rw [show a - n = 0 by omega, show a - (n + 1) = 0 by omega]
        simp only [if_true, List.take_zero, List.nil_append]
        rw [show max (c - n) 0 = max (c - (n + 1)) 0 + 1 by omega, List.drop_succ_cons]
      · rw [show sel n = false by rw [hsn]; simp [h2]]
        rw [show a - n = 0 by omega, show a - (n + 1) = 0 by omega]
        simp only [List.take_zero, List.nil_append]
        rw [show max (c - n) 0 = 0 by omega, show max (c - (n + 1)) 0 = 0 by omega]
        simp
    · rw [show sel n = false by rw [hsn]; simp [h1]]
      simp only
      rw [show a - n = (a - (n + 1)) + 1 by omega, List.take_succ_cons, show max (c - n) (a - (n + 1) + 1) = max (c - (n + 1)) (a - (n + 1)) + 1 by omega, List.drop_succ_cons]
      rfl
section
variable {prog : Program} {w : World} {A : Around} {E : Value → Shared → Prop} {s : Shared}
set_option maxRecDepth 100000 in
theorem delItem_cut {l sl : Addr} {its : Array Value} {n : Nat} {vl vu : Value} {lo hi : Option Int} {a c : Nat} {Q : Unit → Shared → Prop}
    (e : s.heap.get? l = some { cls := .type "list", data := .seq its n }) (hs : s.heap.IsSliceOf sl vl vu .none) (pl : IsPart vl lo) (pu : IsPart vu hi) (hb : sliceBounds lo hi none its.size = ((a : Int), (c : Int), 1))
    (hz : its.size ≤ sizeLine) (h : ∀ f : Array Value → Array Value, f its = (its.toList.take a ++ its.toList.drop (max c a)).toArray → Q () { s with heap := s.heap.update l (Obj.mapSeq f) }) :
    wpAny (model prog w) A (delItem (.ref l) (.ref sl)) Q E s := by
  have tl : s.TypeIs (.ref l) "list" := ⟨_, e, rfl⟩
  obtain ⟨os, hos, hcs, hds⟩ := id hs
  have ts : s.TypeIs (.ref sl) "slice" := ⟨os, hos, hcs⟩
  have one : ¬ ((rawPart none == rawInt 0) = true) := Bool.false_ne_true
  refine wpAny_delItem_slot tl (by decide) F.slot_list_delitem (wpAny_call_entry F.slot_list_delitem tl F.entry_list_delitem ?_ (F.args_list_delitem_2 _ _))
  show wpAny _ _ (Builtin.List.listSubscript? (.ref sl) >>= _) _ _ s
  refine wpAny_bind ?_
  unfold Builtin.List.listSubscript?
  refine wpAny_bind (wpAny_specialOf ts slice_no_index ?_)
  simp only [Option.isNone_none, if_true]
  refine wpAny_pure ?_
  show wpAny _ _ (typeOf (.ref sl) >>= _) _ _ s
  refine wpAny_bind (wpAny_typeOf ts ?_)
  first
    | rw [if_neg (by decide)]
    | refine PySem.W.KFB.if_not (by decide) ?_
  rw [listSliceParts_eq]
  refine wpAny_bind (wpAny_bind (wpAny_field hos hds (x := .none) rfl (wpAny_bind (wpAny_listPart .none ?_))))
  rw [if_neg one]
  refine wpAny_bind (wpAny_field hos hds (x := vl) rfl (wpAny_bind (wpAny_listPart pl ?_)))
  refine wpAny_bind (wpAny_field hos hds (x := vu) rfl (wpAny_bind (wpAny_listPart pu (wpAny_pure ?_))))
  unfold Builtin.List.listItems
  refine wpAny_bind (wpAny_bind (wpAny_seqItems e rfl (wpAny_pure ?_)))
  refine wpAny_bind (wpAny_of_eq ((sliceIndices_raw lo hi none its.size (by simp)).trans (congrArg (pure : Int × Int × Int → Sem (Int × Int × Int)) hb)) ?_)
  refine wpAny_bind (wpAny_rule ?_)
  unfold Builtin.List.listUpdate
  have cut : ∀ sel : Nat → Bool, (∀ k, sel k = (decide (a ≤ k) && decide (k < c))) → (its.toList.zipIdx.filterMap fun p => if sel p.2 = true then none else some p.1).toArray = (its.toList.take a ++ its.toList.drop (max c a)).toArray := fun sel hsel => by
    rw [keep_out sel a c hsel its.toList 0]
    rfl
  have hsel : ∀ k : Nat, (if (1 : Int) > 0 then (decide ((a : Int) ≤ k) && decide ((k : Int) < c) && ((k : Int) - a) % 1 == 0) else (decide ((c : Int) < k) && decide ((k : Int) ≤ a) && ((a : Int) - k) % (-1) == 0)) = (decide (a ≤ k) && decide (k < c)) := fun k => by
    rw [if_pos (by decide)]
    simp
  have hcut := cut (fun k => if (1 : Int) > 0 then (decide ((a : Int) ≤ k) && decide ((k : Int) < c) && ((k : Int) - a) % 1 == 0) else (decide ((c : Int) < k) && decide ((k : Int) ≤ a) && ((a : Int) - k) % (-1) == 0)) hsel
  refine wpAny_bind (wpAny_updateSeq (hz := hz) (_hz' := ?z) e rfl (wpAny_bind (wpAny_letGo ?_)))
  · exact wpAny_pure ⟨.none, rfl, h _ hcut⟩
  case z =>
    refine Nat.le_trans (Nat.le_of_eq (congrArg Array.size hcut)) ?_
    rw [List.size_toArray, List.length_append, List.length_take, List.length_drop, Array.length_toList]
    omega
end
variable {X : Cx} {o : Expr} {to : TE} {lo hi : Option Expr} {tl th : TO} {tpos p2 pos : Pos}
theorem ps_delS (ho : PE X o to) (hl : PO X lo tl) (hu : PO X hi th) : PS X (.Delete [.Subscript o (.Slice lo hi none p2) tpos] pos)
    (fun D σ H => to σ H fun x H1 => tl σ H1 fun i H2 => th σ H2 fun j H3 => ∃ (l : Addr) (xs : List V) (a c : Nat), x = .ref l ∧ H3 l = some (.lst xs) ∧ sliceBounds i j none xs.length = ((a : Int), (c : Int), 1) ∧ D.nx σ (upd H3 l (.lst (xs.take a ++ xs.drop (max c a))))) := by
  refine ⟨fun pins s σ H D I h => ?_⟩
  refine wpAny_Delete (wpAny_deleteEach_cons (wpAny_delete_Subscript (thn (ho.run pins s σ H _ I h) fun v s1 ⟨x, H1, I1, rx, q1⟩ => ?_)))
  refine wpAny_Slice (thn (hl.run pins s1 σ H1 _ I1 q1) fun vl s2 ⟨i, H2, I2, pl, q2⟩ => thn (hu.run pins s2 σ H2 _ I2 q2) fun vu s3 ⟨j, H3, I3, pu, l, xs, a, c, ex, hH, hb, q⟩ => ?_)
  rw [evalPart_none]
  refine wpAny_pure ?_
  subst ex
  cases (show v = Value.ref l from rx)
  have I4 : Inv X pins σ H3 { s3 with heap := s3.heap.push { cls := .type "slice", data := .fields #[vl, vu, .none] } } := I3.kept (t' := s3.toks) fun b ob q => Heap.get?_push_of_some _ q
  obtain ⟨z, its, n, r, hlen, e⟩ := I4.lstM hH
  have hz : its.toArray.size ≤ sizeLine := by rw [List.size_toArray]; omega
  refine delItem_cut e (Heap.IsSliceOf.new ..) pl pu (a := a) (c := c) (by rw [List.size_toArray, ← hlen]; exact hb) hz fun f hf => ?_
  refine wpAny_deleteEach_nil ⟨σ, _, ?_, q⟩
  refine I4.lset (its' := its.take a ++ its.drop (max c a)) (t' := s3.toks) hH e hf (Vals.append (r.take _) (r.drop _)) ?_
  rw [List.length_append, List.length_take, List.length_drop]
  omega
end XD
/-! own text: list(x) of a text -/
namespace XL
open PySem PySem.Spec PyProof.Rows L2 PySem.W
open Sem (wp)
section
variable {prog : Program} {w : World} {A : Around} {E : Value → Shared → Prop} {s : Shared} {x : Str} {t : Tok}
theorem hint_text {Q : Bool → Shared → Prop} (h : Q false s) : wpAny (model prog w) A (Builtin.List.listLengthHint (.str x t)) Q E s := by
  have hT : s.TypeIs (.str x t) "str" := typeIs_str s x t
  unfold Builtin.List.listLengthHint
  refine wpAny_bind (wpAny_specialOf hT PySem.F.slot_str_len.lookup ?_)
  generalize hid : ("str.__len__" : String) = id1
  wp_delta
  rw [show splitId id1 = some ("str", "__len__") from by subst hid; decide +kernel]
  subst hid
  refine wpAny_bind (wpAny_isInstance (T := "str") (b := true) hT (by rw [isSubtype_type]; kernel_rfl) ?_)
  refine wpAny_ite_split (fun hab => absurd hab (by decide)) (fun _ => ?_)
  refine wpAny_ite_split (fun _ => ?_) (fun hab => absurd (by decide +kernel) hab)
  exact wpAny_bind (wpAny_typeOf hT (wpAny_pure h))
/-- the iterator that a text gives, whichever -/
theorem iter_text (hh : A.handled = none) : ∃ (oI : Obj) (W : Nat → Heap → Prop), (∀ (E : Value → Shared → Prop) (Q : Value → Shared → Prop), Q (.ref s.heap.objs.size) { s with heap := s.heap.push oI } → wpAny (model prog w) A (pyIter (.str x t)) Q E s) ∧
    Walks prog w A s.heap.objs.size [s.heap.objs.size] [s.heap.objs.size] x.cps.size (SignAt x) W ∧ W 0 (s.heap.push oI) := by
  cases ha : x.cps.all (· < 128)
  · exact ⟨_, _, fun E Q q => wpAny_pyIter_wide ha q, Walks.strWide hh _ x t, ⟨_, Heap.get?_push_size _ rfl, rfl, rfl⟩⟩
  · exact ⟨_, _, fun E Q q => wpAny_pyIter_ascii ha q, Walks.strAscii hh _ x t, ⟨_, Heap.get?_push_size _ rfl, rfl, rfl⟩⟩
theorem fill_text {R : Result → Shared → Prop} (hh : A.handled = none) (L : Addr) (res : Value) (c0 : Nat) (hL : s.heap.get? L = some { cls := .type "list", data := .seq #[] c0 }) (hn : x.cps.size ≤ sizeLine)
    (hR : ∀ h' tk acc c, (∀ b o, b ≠ L → s.heap.get? b = some o → h'.get? b = some o) → h'.get? L = some { cls := .type "list", dict := none, data := .seq acc c, slots := #[] } → ItemsOf (SignAt x) acc x.cps.size → R (.ok (.ret res)) { s with heap := h', toks := tk }) :
    wpAny (model prog w) A.in1 (Builtin.List.listExtendWith (.ref L) (.str x t) res)
      (fun fin s' => match fin with | .done f => R (.ok f) s' | .again c' => c'.quiet = true ∧ codeAny (model prog w) A c' R s') (fun e s' => R (.error e) s') s := by
  have hLI : L ≠ s.heap.objs.size := Nat.ne_of_lt (Heap.lt_size hL)
  have hLf : L ∉ [s.heap.objs.size] := by simpa using hLI
  obtain ⟨oI, St, hit, W, st⟩ := iter_text (prog := prog) (w := w) (A := A.in1) (s := s) (x := x) (t := t) hh
  have go : ∀ (h : Heap) (c1 tk : Nat), St 0 h → (∀ b o, b ≠ L → s.heap.get? b = some o → h.get? b = some o) → h.get? L = some { cls := .type "list", data := .seq #[] c1 } →
      codeAny (model prog w) A (.builtin "list.extend.loop" ⟨[.ref L, .ref s.heap.objs.size, res], []⟩) R { s with heap := h, toks := tk } := fun h c1 tk hst hk hL1 => by
    refine codeAny_extend_loopS W.toS hn L hLf res x.cps.size 0 _ #[] c1 rfl (Nat.zero_le _) hst hL1 (ItemsOf.nil _) fun s2 acc c hm hL2 hacc => ?_
    rw [Moved.eq_with hm]
    refine hR s2.heap s2.toks acc c (fun b o hb e => hm.heap b o (fun z => ?_) (hk b o hb e)) hL2 hacc
    rcases List.mem_cons.mp z with z | z
    · exact hb z
    · exact absurd (Heap.lt_size e) (by rw [List.mem_singleton.mp z]; exact Nat.lt_irrefl _)
  have hT : s.TypeIs (.str x t) "str" := typeIs_str s x t
  unfold Builtin.List.listExtendWith
  refine wpAny_bind (wpAny_typeOf (T := "str") hT ?_)
  have k1 : Builtin.List.listSameRef (.ref L) (.str x t) = false := rfl
  have k2 : (Value.type "str" == Value.type "list") = false := by decide
  have k3 : (Value.type "str" == Value.type "tuple") = false := by decide
  simp only [k1, k2, k3, Bool.or_false, Bool.false_eq_true, if_false]
  refine wpAny_bind (hit _ _ ?_)
  have g1 := Heap.get?_push_of_some oI hL
  refine wpAny_bind (wpAny_holding (hint_text ?_))
  refine wpAny_ite_split (fun _ => ?_) (fun _ => wpAny_pure ⟨plainId_quiet PySem.F.plain_extend_loop _, go _ c0 _ st (fun b o _ e => Heap.get?_push_of_some _ e) g1⟩)
  refine wpAny_bind (wpAny_rule (wpAny_bind ?_))
  show wpAny _ _ (updateSeq L (·.push .none) >>= fun _ => updateSeq L (·.pop)) _ _ _
  refine wpAny_bind (wpAny_updateSeq g1 rfl ?_)
  have g2 := Heap.get?_update_self (Obj.mapSeq (·.push Value.none)) g1 rfl
  refine wpAny_updateSeq (hz := by seq_fits) g2 rfl ?_
  have g3 := Heap.get?_update_self (Obj.mapSeq (·.pop)) g2 rfl
  refine wpAny_pure ⟨plainId_quiet PySem.F.plain_extend_loop _, go _ _ _ (W.frame 0 _ _ st fun b hb o e => ?_) (fun b o hb e => ?_) g3⟩
  · have hbL : L ≠ b := fun z => hLf (z ▸ hb)
    exact (Heap.get?_update_other _ _ hbL).trans ((Heap.get?_update_other _ _ hbL).trans e)
  · exact (Heap.get?_update_other _ _ (Ne.symm hb)).trans ((Heap.get?_update_other _ _ (Ne.symm hb)).trans (Heap.get?_push_of_some _ e))
theorem call_text {Q : Value → Shared → Prop} (hh : A.handled = none) (hn : x.cps.size ≤ sizeLine)
    (hQ : ∀ h' tk acc c, (∀ b o, s.heap.get? b = some o → h'.get? b = some o) → h'.get? s.heap.objs.size = some { cls := .type "list", dict := none, data := .seq acc c, slots := #[] } → ItemsOf (SignAt x) acc x.cps.size → Q (.ref s.heap.objs.size) { s with heap := h', toks := tk }) :
    wpAny (model prog w) A (call (.type "list") [.str x t]) Q E s := by
  refine callType_codes (Q₁ := fun ob s1 => ob = .ref s.heap.objs.size ∧ s1 = { s with heap := s.heap.push { cls := .type "list", data := .seq #[] } }) PySem.F.called_list (PySem.F.typeCall_list_1 _) PySem.F.entry_list_init
    (code_list_new _ ⟨rfl, rfl⟩) fun ob s1 h1 => ?_
  obtain ⟨rfl, rfl⟩ := h1
  have hL : (s.heap.push { cls := .type "list", data := .seq #[] }).get? s.heap.objs.size = some { cls := .type "list", data := .seq #[] } := Heap.get?_push_size _ rfl
  refine ⟨⟨_, hL, rfl⟩, PySem.F.args_list_init_2 _ _, ?_⟩
  show wpAny _ _ (do let old ← Builtin.List.listItems (.ref s.heap.objs.size); Builtin.List.listUpdate (.ref s.heap.objs.size) (fun _ => #[]); letGo old.toList.reverse; Builtin.List.listExtendWith (.ref s.heap.objs.size) (.str x t) .none) _ _ _
  refine wpAny_bind ?_
  unfold Builtin.List.listItems
  refine wpAny_bind (wpAny_seqItems hL rfl (wpAny_pure ?_))
  show wpAny _ _ (updateSeq s.heap.objs.size (fun _ => #[]) >>= fun _ => letGo (#[] : Array Value).toList.reverse >>= fun _ => Builtin.List.listExtendWith (.ref s.heap.objs.size) (.str x t) .none) _ _ _
  refine wpAny_bind (wpAny_updateSeq hL rfl ?_)
  have g2 := Heap.get?_update_self (Obj.mapSeq (fun _ => (#[] : Array Value))) hL rfl
  refine wpAny_bind (wpAny_letGo ?_)
  refine fill_text (A := A.in1) hh s.heap.objs.size .none _ g2 hn fun h' tk acc c hk hL2 hacc => ⟨rfl, hQ h' tk acc c (fun b o e => ?_) hL2 hacc⟩
  have hb : b ≠ s.heap.objs.size := Nat.ne_of_lt (Heap.lt_size e)
  exact hk b o hb ((Heap.get?_update_other _ _ (Ne.symm hb)).trans (Heap.get?_push_of_some _ e))
end
/-- the signs of a text, as texts -/
def signs (x : Str) : List Str := x.cps.toList.map fun c => ⟨#[c]⟩
theorem call_list_text {X : Cx} (hc : X.calm = true) : CallR X (.type "list") (fun xs H Q => ∃ x, xs = [.str x] ∧ x.length ≤ sizeLine ∧ ∀ l, H l = none → Q (.ref l) (upd H l (.lst ((signs x).map V.str)))) := by
  intro pins s σ H xs us Q I r h
  obtain ⟨x, rfl, hz, q⟩ := h
  obtain ⟨u, rfl, t, rfl⟩ := vals1 r
  have hz' : x.cps.size ≤ sizeLine := hz
  refine call_text (I.ok.hd hc) hz' fun h' tk acc c hk hL hacc => ?_
  refine ⟨.ref s.heap.objs.size, _, I.laid hk (Nat.le_refl _) (show ObjOk X.prog X.w _ h' _ (.lst ((signs x).map V.str)) from ⟨?_, acc.toList, c, ?_, ?_⟩), rfl, q _ (I.hok.fresh (Nat.le_refl _))⟩
  · rw [List.length_map]; unfold signs; rw [List.length_map, Array.length_toList]; exact hz'
  · refine vals_of_at (by rw [List.length_map]; unfold signs; rw [List.length_map, Array.length_toList, Array.length_toList, hacc.1]) fun j v u h1 h2 => ?_
    obtain ⟨cc, tt, e1, e2⟩ := hacc.2 j u (by rw [← Array.getElem?_toList]; exact h2)
    rw [List.getElem?_map] at h1
    unfold signs at h1
    rw [List.getElem?_map, Array.getElem?_toList, e1] at h1
    cases h1
    exact ⟨tt, e2⟩
  · simpa using hL
end XL
namespace My
open PySem L2 SX XT XS XE
def top (i : Nat) : Stmt := PySem.Challenge.pw_livequill_k29_iterators.main.body.getD i (.Pass ⟨0, 0, 0, 0⟩)
abbrev s_tagged : Stmt := top 10
theorem sc_tagged : FnScope ["key"] ["key"] (defScope s_tagged) := ⟨rfl, rfl, rfl, by decide +kernel, rfl, by decide +kernel, by decide +kernel⟩
abbrev s_kind_of : Stmt := top 15
theorem sc_kind_of : FnScope ["store", "value"] ["store", "value"] (defScope s_kind_of) := ⟨rfl, rfl, rfl, by decide +kernel, rfl, by decide +kernel, by decide +kernel⟩
abbrev s_kind_of_thing : Stmt := top 16
theorem sc_kind_of_thing : FnScope ["thing"] ["thing"] (defScope s_kind_of_thing) := ⟨rfl, rfl, rfl, by decide +kernel, rfl, by decide +kernel, by decide +kernel⟩
abbrev s_is_key : Stmt := top 17
theorem sc_is_key : FnScope ["value"] ["value"] (defScope s_is_key) := ⟨rfl, rfl, rfl, by decide +kernel, rfl, by decide +kernel, by decide +kernel⟩
abbrev s_check_size : Stmt := top 20
theorem sc_check_size : FnScope ["size"] ["size"] (defScope s_check_size) := ⟨rfl, rfl, rfl, by decide +kernel, rfl, by decide +kernel, by decide +kernel⟩
abbrev s_check_key : Stmt := top 22
theorem sc_check_key : FnScope ["key"] ["key"] (defScope s_check_key) := ⟨rfl, rfl, rfl, by decide +kernel, rfl, by decide +kernel, by decide +kernel⟩
abbrev s_put_entry : Stmt := top 23
theorem sc_put_entry : FnScope ["table", "key", "value"] ["table", "key", "value"] (defScope s_put_entry) := ⟨rfl, rfl, rfl, by decide +kernel, rfl, by decide +kernel, by decide +kernel⟩
abbrev s_make_list : Stmt := top 24
theorem sc_make_list : FnScope ["store", "values"] ["store", "values"] (defScope s_make_list) := ⟨rfl, rfl, rfl, by decide +kernel, rfl, by decide +kernel, by decide +kernel⟩
abbrev s_make_map : Stmt := top 25
theorem sc_make_map : FnScope ["store", "pairs", "table", "key", "value"] ["store", "pairs"] (defScope s_make_map) := ⟨rfl, rfl, rfl, by decide +kernel, rfl, by decide +kernel, by decide +kernel⟩
abbrev s_make_cursor : Stmt := top 26
theorem sc_make_cursor : FnScope ["store", "x", "kind", "rest", "key", "_"] ["store", "x"] (defScope s_make_cursor) := ⟨rfl, rfl, rfl, by decide +kernel, rfl, by decide +kernel, by decide +kernel⟩
abbrev s_next_of : Stmt := top 27
theorem sc_next_of : FnScope ["store", "ref", "cursor", "found"] ["store", "ref"] (defScope s_next_of) := ⟨rfl, rfl, rfl, by decide +kernel, rfl, by decide +kernel, by decide +kernel⟩
abbrev s_law_cell : Stmt := top 31
theorem sc_law_cell : FnScope ["script", "k"] ["script", "k"] (defScope s_law_cell) := ⟨rfl, rfl, rfl, by decide +kernel, rfl, by decide +kernel, by decide +kernel⟩
abbrev s_law_begin : Stmt := top 32
theorem sc_law_begin : FnScope ["script", "k"] ["script", "k"] (defScope s_law_begin) := ⟨rfl, rfl, rfl, by decide +kernel, rfl, by decide +kernel, by decide +kernel⟩
abbrev s_law_draw : Stmt := top 33
theorem sc_law_draw : FnScope ["state", "many", "k", "cell", "prime", "mixed", "digit"] ["state", "many"] (defScope s_law_draw) := ⟨rfl, rfl, rfl, by decide +kernel, rfl, by decide +kernel, by decide +kernel⟩
abbrev s_law_pick : Stmt := top 34
theorem sc_law_pick : FnScope ["state", "row"] ["state", "row"] (defScope s_law_pick) := ⟨rfl, rfl, rfl, by decide +kernel, rfl, by decide +kernel, by decide +kernel⟩
abbrev s_law_source : Stmt := top 35
theorem sc_law_source : FnScope ["store", "state", "kind", "row", "text", "k", "keys", "key"] ["store", "state"] (defScope s_law_source) := ⟨rfl, rfl, rfl, by decide +kernel, rfl, by decide +kernel, by decide +kernel⟩
abbrev s_law_same : Stmt := top 36
theorem sc_law_same : FnScope ["told", "due", "k"] ["told", "due"] (defScope s_law_same) := ⟨rfl, rfl, rfl, by decide +kernel, rfl, by decide +kernel, by decide +kernel⟩
abbrev s_law_spoilt : Stmt := top 37
theorem sc_law_spoilt : FnScope ["store", "value", "state", "thing"] ["store", "value", "state"] (defScope s_law_spoilt) := ⟨rfl, rfl, rfl, by decide +kernel, rfl, by decide +kernel, by decide +kernel⟩
abbrev s_law_refused : Stmt := top 38
theorem sc_law_refused : FnScope ["store", "many", "value", "kind", "told", "e"] ["store"] (defScope s_law_refused) := ⟨rfl, rfl, rfl, by decide +kernel, rfl, by decide +kernel, by decide +kernel⟩
abbrev s_law : Stmt := top 39
theorem sc_law : FnScope ["script", "state", "store", "rows", "k", "value", "due", "many", "ref", "row", "kind", "double", "told"] ["script"] (defScope s_law) := ⟨rfl, rfl, rfl, by decide +kernel, rfl, by decide +kernel, by decide +kernel⟩
abbrev s_Ref_init : Stmt := inClass (top 5) 0
theorem sc_Ref_init : FnScope ["self", "number"] ["self", "number"] (defScope s_Ref_init) := ⟨rfl, rfl, rfl, by decide +kernel, rfl, by decide +kernel, by decide +kernel⟩
abbrev s_Ref_eq : Stmt := inClass (top 5) 1
theorem sc_Ref_eq : FnScope ["self", "other"] ["self", "other"] (defScope s_Ref_eq) := ⟨rfl, rfl, rfl, by decide +kernel, rfl, by decide +kernel, by decide +kernel⟩
abbrev s_Builtin_init : Stmt := inClass (top 6) 0
theorem sc_Builtin_init : FnScope ["self", "name"] ["self", "name"] (defScope s_Builtin_init) := ⟨rfl, rfl, rfl, by decide +kernel, rfl, by decide +kernel, by decide +kernel⟩
abbrev s_Builtin_eq : Stmt := inClass (top 6) 1
theorem sc_Builtin_eq : FnScope ["self", "other"] ["self", "other"] (defScope s_Builtin_eq) := ⟨rfl, rfl, rfl, by decide +kernel, rfl, by decide +kernel, by decide +kernel⟩
abbrev s_Parts_init : Stmt := inClass (top 8) 0
theorem sc_Parts_init : FnScope ["self", "held"] ["self", "held"] (defScope s_Parts_init) := ⟨rfl, rfl, rfl, by decide +kernel, rfl, by decide +kernel, by decide +kernel⟩
abbrev s_Parts_fork : Stmt := inClass (top 8) 1
theorem sc_Parts_fork : FnScope ["self"] ["self"] (defScope s_Parts_fork) := ⟨rfl, rfl, rfl, by decide +kernel, rfl, by decide +kernel, by decide +kernel⟩
abbrev s_Table_init : Stmt := inClass (top 9) 0
theorem sc_Table_init : FnScope ["self"] ["self"] (defScope s_Table_init) := ⟨rfl, rfl, rfl, by decide +kernel, rfl, by decide +kernel, by decide +kernel⟩
abbrev s_Table_has : Stmt := inClass (top 9) 1
theorem sc_Table_has : FnScope ["self", "key"] ["self", "key"] (defScope s_Table_has) := ⟨rfl, rfl, rfl, by decide +kernel, rfl, by decide +kernel, by decide +kernel⟩
abbrev s_Table_put : Stmt := inClass (top 9) 3
theorem sc_Table_put : FnScope ["self", "key", "value"] ["self", "key", "value"] (defScope s_Table_put) := ⟨rfl, rfl, rfl, by decide +kernel, rfl, by decide +kernel, by decide +kernel⟩
abbrev s_Table_pairs : Stmt := inClass (top 9) 5
theorem sc_Table_pairs : FnScope ["self"] ["self"] (defScope s_Table_pairs) := ⟨rfl, rfl, rfl, by decide +kernel, rfl, by decide +kernel, by decide +kernel⟩
abbrev s_Table_many : Stmt := inClass (top 9) 6
theorem sc_Table_many : FnScope ["self"] ["self"] (defScope s_Table_many) := ⟨rfl, rfl, rfl, by decide +kernel, rfl, by decide +kernel, by decide +kernel⟩
abbrev s_Table_fork : Stmt := inClass (top 9) 7
theorem sc_Table_fork : FnScope ["self", "other", "key", "value"] ["self"] (defScope s_Table_fork) := ⟨rfl, rfl, rfl, by decide +kernel, rfl, by decide +kernel, by decide +kernel⟩
abbrev s_Instance_init : Stmt := inClass (top 11) 0
theorem sc_Instance_init : FnScope ["self", "owner"] ["self", "owner"] (defScope s_Instance_init) := ⟨rfl, rfl, rfl, by decide +kernel, rfl, by decide +kernel, by decide +kernel⟩
abbrev s_Instance_fork : Stmt := inClass (top 11) 1
theorem sc_Instance_fork : FnScope ["self", "other"] ["self"] (defScope s_Instance_fork) := ⟨rfl, rfl, rfl, by decide +kernel, rfl, by decide +kernel, by decide +kernel⟩
abbrev s_Kin_init : Stmt := inClass (top 12) 0
theorem sc_Kin_init : FnScope ["self", "name", "parent"] ["self", "name", "parent"] (defScope s_Kin_init) := ⟨rfl, rfl, rfl, by decide +kernel, rfl, by decide +kernel, by decide +kernel⟩
abbrev s_Kin_fork : Stmt := inClass (top 12) 1
theorem sc_Kin_fork : FnScope ["self", "other"] ["self"] (defScope s_Kin_fork) := ⟨rfl, rfl, rfl, by decide +kernel, rfl, by decide +kernel, by decide +kernel⟩
abbrev s_Cursor_init : Stmt := inClass (top 13) 0
theorem sc_Cursor_init : FnScope ["self", "rest"] ["self", "rest"] (defScope s_Cursor_init) := ⟨rfl, rfl, rfl, by decide +kernel, rfl, by decide +kernel, by decide +kernel⟩
abbrev s_Cursor_fork : Stmt := inClass (top 13) 1
theorem sc_Cursor_fork : FnScope ["self"] ["self"] (defScope s_Cursor_fork) := ⟨rfl, rfl, rfl, by decide +kernel, rfl, by decide +kernel, by decide +kernel⟩
abbrev s_Store_init : Stmt := inClass (top 29) 0
theorem sc_Store_init : FnScope ["self", "lines"] ["self", "lines"] (defScope s_Store_init) := ⟨rfl, rfl, rfl, by decide +kernel, rfl, by decide +kernel, by decide +kernel⟩
abbrev s_Store_make : Stmt := inClass (top 29) 1
theorem sc_Store_make : FnScope ["self", "thing"] ["self", "thing"] (defScope s_Store_make) := ⟨rfl, rfl, rfl, by decide +kernel, rfl, by decide +kernel, by decide +kernel⟩
abbrev s_Store_at : Stmt := inClass (top 29) 2
theorem sc_Store_at : FnScope ["self", "ref"] ["self", "ref"] (defScope s_Store_at) := ⟨rfl, rfl, rfl, by decide +kernel, rfl, by decide +kernel, by decide +kernel⟩
abbrev s_Store_fork : Stmt := inClass (top 29) 3
theorem sc_Store_fork : FnScope ["self", "other", "thing"] ["self"] (defScope s_Store_fork) := ⟨rfl, rfl, rfl, by decide +kernel, rfl, by decide +kernel, by decide +kernel⟩
abbrev sx_ScriptError : Stmt := inClass (top 3) 0
/-- where the classes stand -/
structure Ads where
  Ref : Addr
  Builtin : Addr
  Parts : Addr
  Table : Addr
  Instance : Addr
  Kin : Addr
  Cursor : Addr
  Store : Addr
  LivequillError : Addr
  ScriptError : Addr
structure CF (K : PySem.W.Frag) (mg : Str → Option Value) (C : Addr) (nm : Str) : Prop where
  cl : Cls K C
  g : mg nm = some (.ref C)
  ty : ∀ {H : Hp} {a dx : Addr} {fs : List (Str × V)}, H a = some (.ins C dx fs) → TyX K H (.ref a) (.ref C)
structure Fx (K : PySem.W.Frag) (mg : Str → Option Value) (nm : Str) (st : Stmt) (ps : List Str) where
  f : Addr
  fd : FuncData
  F : Fun K nm nm st f fd
  b : Binds K fd ps []
  g : mg nm = some (.ref f)
structure Mx (K : PySem.W.Frag) (C : Addr) (nm qual : Str) (st : Stmt) (ps : List Str) where
  f : Addr
  fd : FuncData
  F : Fun K nm qual st f fd
  b : Binds K fd ps []
  m : Meth K C nm f
structure Ix (K : PySem.W.Frag) (C : Addr) (qual : Str) (st : Stmt) (ps : List Str) where
  f : Addr
  fd : FuncData
  F : Fun K "__init__" qual st f fd
  b : Binds K fd ps []
  m : Mk K C f
structure OwnEq (K : PySem.W.Frag) (C f : Addr) : Prop where
  at_ : PySem.W.findIn K (.ref C) "__eq__" = some (some (.ref f))
  fn : PySem.W.isFn K (.ref f) = true
structure Qx (K : PySem.W.Frag) (C : Addr) (qual : Str) (st : Stmt) (ps : List Str) where
  f : Addr
  fd : FuncData
  F : Fun K "__eq__" qual st f fd
  b : Binds K fd ps []
  m : OwnEq K C f
structure Px (K : PySem.W.Frag) (C : Addr) (nm qual : Str) (st : Stmt) (ps : List Str) where
  f : Addr
  p : Addr
  fd : FuncData
  F : Fun K nm qual st f fd
  b : Binds K fd ps []
  m : PropOf K C nm p f
structure Tx (K : PySem.W.Frag) (mg : Str → Option Value) (nm : Str) (vs : List V) where
  a : Addr
  g : mg nm = some (.ref a)
  s : ∀ H, SqT K H a vs
structure Xx (P : Program) (K : PySem.W.Frag) (mg : Str → Option Value) (C : Addr) (nm n1 n2 : Str) where
  f : Addr
  fd : FuncData
  T : Exn P K mg C f n1 n2
  F : ∀ w base, FnOk P w K mg base CX0 1 f fd ["self", n1, n2] (spTwo C n1 n2)
  b : Binds K fd ["self", n1, n2] []
  g : mg nm = some (.ref C)
  ec : ExcC K C
structure Gx (mg : Str → Option Value) (C : Addr) (nm : Str) : Prop where
  g : mg nm = some (.ref C)
/-- what the written part says -/
structure Lib (P : Program) (K : PySem.W.Frag) (mg : Str → Option Value) (A : Ads) where
  z_range : mg "range" = none
  z_len : mg "len" = none
  z_int : mg "int" = none
  z_str : mg "str" = none
  z_bool : mg "bool" = none
  z_isinstance : mg "isinstance" = none
  z_list : mg "list" = none
  z_dict : mg "dict" = none
  z_abs : mg "abs" = none
  z_min : mg "min" = none
  z_max : mg "max" = none
  c_Ref : CF K mg A.Ref "Ref"
  n_Ref_number : PySem.W.findIn K (.ref A.Ref) "number" = some none
  c_Builtin : CF K mg A.Builtin "Builtin"
  n_Builtin_name : PySem.W.findIn K (.ref A.Builtin) "name" = some none
  c_Parts : CF K mg A.Parts "Parts"
  n_Parts_held : PySem.W.findIn K (.ref A.Parts) "held" = some none
  c_Table : CF K mg A.Table "Table"
  n_Table__entries : PySem.W.findIn K (.ref A.Table) "_entries" = some none
  c_Instance : CF K mg A.Instance "Instance"
  n_Instance_owner : PySem.W.findIn K (.ref A.Instance) "owner" = some none
  n_Instance_named : PySem.W.findIn K (.ref A.Instance) "named" = some none
  c_Kin : CF K mg A.Kin "Kin"
  n_Kin_name : PySem.W.findIn K (.ref A.Kin) "name" = some none
  n_Kin_parent : PySem.W.findIn K (.ref A.Kin) "parent" = some none
  n_Kin_methods : PySem.W.findIn K (.ref A.Kin) "methods" = some none
  c_Cursor : CF K mg A.Cursor "Cursor"
  n_Cursor_rest : PySem.W.findIn K (.ref A.Cursor) "rest" = some none
  c_Store : CF K mg A.Store "Store"
  n_Store_things : PySem.W.findIn K (.ref A.Store) "things" = some none
  n_Store_output : PySem.W.findIn K (.ref A.Store) "output" = some none
  n_Store_lines : PySem.W.findIn K (.ref A.Store) "lines" = some none
  n_Store_taken : PySem.W.findIn K (.ref A.Store) "taken" = some none
  x_LivequillError : Gx mg A.LivequillError "LivequillError"
  x_ScriptError : Xx P K mg A.ScriptError "ScriptError" "kind" "message"
  k_ScriptError_LivequillError : PySem.W.kitOne K (.ref A.ScriptError) (.ref A.LivequillError) = some true
  k_Ref_Parts : PySem.W.kitOne K (.ref A.Ref) (.ref A.Parts) = some false
  k_Ref_Table : PySem.W.kitOne K (.ref A.Ref) (.ref A.Table) = some false
  k_Ref_Instance : PySem.W.kitOne K (.ref A.Ref) (.ref A.Instance) = some false
  k_Ref_Kin : PySem.W.kitOne K (.ref A.Ref) (.ref A.Kin) = some false
  k_Ref_Builtin : PySem.W.kitOne K (.ref A.Ref) (.ref A.Builtin) = some false
  k_Ref_bool : PySem.W.kitOne K (.ref A.Ref) (.type "bool") = some false
  k_Ref_int : PySem.W.kitOne K (.ref A.Ref) (.type "int") = some false
  k_Ref_str : PySem.W.kitOne K (.ref A.Ref) (.type "str") = some false
  k_Ref_list : PySem.W.kitOne K (.ref A.Ref) (.type "list") = some false
  k_Builtin_Ref : PySem.W.kitOne K (.ref A.Builtin) (.ref A.Ref) = some false
  k_Builtin_Parts : PySem.W.kitOne K (.ref A.Builtin) (.ref A.Parts) = some false
  k_Builtin_Table : PySem.W.kitOne K (.ref A.Builtin) (.ref A.Table) = some false
  k_Builtin_Instance : PySem.W.kitOne K (.ref A.Builtin) (.ref A.Instance) = some false
  k_Builtin_Kin : PySem.W.kitOne K (.ref A.Builtin) (.ref A.Kin) = some false
  k_Builtin_bool : PySem.W.kitOne K (.ref A.Builtin) (.type "bool") = some false
  k_Builtin_int : PySem.W.kitOne K (.ref A.Builtin) (.type "int") = some false
  k_Builtin_str : PySem.W.kitOne K (.ref A.Builtin) (.type "str") = some false
  k_Builtin_list : PySem.W.kitOne K (.ref A.Builtin) (.type "list") = some false
  k_Parts_Ref : PySem.W.kitOne K (.ref A.Parts) (.ref A.Ref) = some false
  k_Parts_Table : PySem.W.kitOne K (.ref A.Parts) (.ref A.Table) = some false
  k_Parts_Instance : PySem.W.kitOne K (.ref A.Parts) (.ref A.Instance) = some false
  k_Parts_Kin : PySem.W.kitOne K (.ref A.Parts) (.ref A.Kin) = some false
  k_Parts_Builtin : PySem.W.kitOne K (.ref A.Parts) (.ref A.Builtin) = some false
  k_Parts_bool : PySem.W.kitOne K (.ref A.Parts) (.type "bool") = some false
  k_Parts_int : PySem.W.kitOne K (.ref A.Parts) (.type "int") = some false
  k_Parts_str : PySem.W.kitOne K (.ref A.Parts) (.type "str") = some false
  k_Parts_list : PySem.W.kitOne K (.ref A.Parts) (.type "list") = some false
  k_Table_Ref : PySem.W.kitOne K (.ref A.Table) (.ref A.Ref) = some false
  k_Table_Parts : PySem.W.kitOne K (.ref A.Table) (.ref A.Parts) = some false
  k_Table_Instance : PySem.W.kitOne K (.ref A.Table) (.ref A.Instance) = some false
  k_Table_Kin : PySem.W.kitOne K (.ref A.Table) (.ref A.Kin) = some false
  k_Table_Builtin : PySem.W.kitOne K (.ref A.Table) (.ref A.Builtin) = some false
  k_Table_bool : PySem.W.kitOne K (.ref A.Table) (.type "bool") = some false
  k_Table_int : PySem.W.kitOne K (.ref A.Table) (.type "int") = some false
  k_Table_str : PySem.W.kitOne K (.ref A.Table) (.type "str") = some false
  k_Table_list : PySem.W.kitOne K (.ref A.Table) (.type "list") = some false
  k_Instance_Ref : PySem.W.kitOne K (.ref A.Instance) (.ref A.Ref) = some false
  k_Instance_Parts : PySem.W.kitOne K (.ref A.Instance) (.ref A.Parts) = some false
  k_Instance_Table : PySem.W.kitOne K (.ref A.Instance) (.ref A.Table) = some false
  k_Instance_Kin : PySem.W.kitOne K (.ref A.Instance) (.ref A.Kin) = some false
  k_Instance_Builtin : PySem.W.kitOne K (.ref A.Instance) (.ref A.Builtin) = some false
  k_Instance_bool : PySem.W.kitOne K (.ref A.Instance) (.type "bool") = some false
  k_Instance_int : PySem.W.kitOne K (.ref A.Instance) (.type "int") = some false
  k_Instance_str : PySem.W.kitOne K (.ref A.Instance) (.type "str") = some false
  k_Instance_list : PySem.W.kitOne K (.ref A.Instance) (.type "list") = some false
  k_Kin_Ref : PySem.W.kitOne K (.ref A.Kin) (.ref A.Ref) = some false
  k_Kin_Parts : PySem.W.kitOne K (.ref A.Kin) (.ref A.Parts) = some false
  k_Kin_Table : PySem.W.kitOne K (.ref A.Kin) (.ref A.Table) = some false
  k_Kin_Instance : PySem.W.kitOne K (.ref A.Kin) (.ref A.Instance) = some false
  k_Kin_Builtin : PySem.W.kitOne K (.ref A.Kin) (.ref A.Builtin) = some false
  k_Kin_bool : PySem.W.kitOne K (.ref A.Kin) (.type "bool") = some false
  k_Kin_int : PySem.W.kitOne K (.ref A.Kin) (.type "int") = some false
  k_Kin_str : PySem.W.kitOne K (.ref A.Kin) (.type "str") = some false
  k_Kin_list : PySem.W.kitOne K (.ref A.Kin) (.type "list") = some false
  k_Cursor_Ref : PySem.W.kitOne K (.ref A.Cursor) (.ref A.Ref) = some false
  k_Cursor_Parts : PySem.W.kitOne K (.ref A.Cursor) (.ref A.Parts) = some false
  k_Cursor_Table : PySem.W.kitOne K (.ref A.Cursor) (.ref A.Table) = some false
  k_Cursor_Instance : PySem.W.kitOne K (.ref A.Cursor) (.ref A.Instance) = some false
  k_Cursor_Kin : PySem.W.kitOne K (.ref A.Cursor) (.ref A.Kin) = some false
  k_Cursor_Builtin : PySem.W.kitOne K (.ref A.Cursor) (.ref A.Builtin) = some false
  k_Cursor_bool : PySem.W.kitOne K (.ref A.Cursor) (.type "bool") = some false
  k_Cursor_int : PySem.W.kitOne K (.ref A.Cursor) (.type "int") = some false
  k_Cursor_str : PySem.W.kitOne K (.ref A.Cursor) (.type "str") = some false
  k_Cursor_list : PySem.W.kitOne K (.ref A.Cursor) (.type "list") = some false
  k_Store_Ref : PySem.W.kitOne K (.ref A.Store) (.ref A.Ref) = some false
  k_Store_Parts : PySem.W.kitOne K (.ref A.Store) (.ref A.Parts) = some false
  k_Store_Table : PySem.W.kitOne K (.ref A.Store) (.ref A.Table) = some false
  k_Store_Instance : PySem.W.kitOne K (.ref A.Store) (.ref A.Instance) = some false
  k_Store_Kin : PySem.W.kitOne K (.ref A.Store) (.ref A.Kin) = some false
  k_Store_Builtin : PySem.W.kitOne K (.ref A.Store) (.ref A.Builtin) = some false
  k_Store_bool : PySem.W.kitOne K (.ref A.Store) (.type "bool") = some false
  k_Store_int : PySem.W.kitOne K (.ref A.Store) (.type "int") = some false
  k_Store_str : PySem.W.kitOne K (.ref A.Store) (.type "str") = some false
  k_Store_list : PySem.W.kitOne K (.ref A.Store) (.type "list") = some false
  k_NoneType_Ref : PySem.W.kitOne K (.type "NoneType") (.ref A.Ref) = some false
  k_NoneType_Parts : PySem.W.kitOne K (.type "NoneType") (.ref A.Parts) = some false
  k_NoneType_Table : PySem.W.kitOne K (.type "NoneType") (.ref A.Table) = some false
  k_NoneType_Instance : PySem.W.kitOne K (.type "NoneType") (.ref A.Instance) = some false
  k_NoneType_Kin : PySem.W.kitOne K (.type "NoneType") (.ref A.Kin) = some false
  k_NoneType_Builtin : PySem.W.kitOne K (.type "NoneType") (.ref A.Builtin) = some false
  k_bool_Ref : PySem.W.kitOne K (.type "bool") (.ref A.Ref) = some false
  k_bool_Parts : PySem.W.kitOne K (.type "bool") (.ref A.Parts) = some false
  k_bool_Table : PySem.W.kitOne K (.type "bool") (.ref A.Table) = some false
  k_bool_Instance : PySem.W.kitOne K (.type "bool") (.ref A.Instance) = some false
  k_bool_Kin : PySem.W.kitOne K (.type "bool") (.ref A.Kin) = some false
  k_bool_Builtin : PySem.W.kitOne K (.type "bool") (.ref A.Builtin) = some false
  k_int_Ref : PySem.W.kitOne K (.type "int") (.ref A.Ref) = some false
  k_int_Parts : PySem.W.kitOne K (.type "int") (.ref A.Parts) = some false
  k_int_Table : PySem.W.kitOne K (.type "int") (.ref A.Table) = some false
  k_int_Instance : PySem.W.kitOne K (.type "int") (.ref A.Instance) = some false
  k_int_Kin : PySem.W.kitOne K (.type "int") (.ref A.Kin) = some false
  k_int_Builtin : PySem.W.kitOne K (.type "int") (.ref A.Builtin) = some false
  k_str_Ref : PySem.W.kitOne K (.type "str") (.ref A.Ref) = some false
  k_str_Parts : PySem.W.kitOne K (.type "str") (.ref A.Parts) = some false
  k_str_Table : PySem.W.kitOne K (.type "str") (.ref A.Table) = some false
  k_str_Instance : PySem.W.kitOne K (.type "str") (.ref A.Instance) = some false
  k_str_Kin : PySem.W.kitOne K (.type "str") (.ref A.Kin) = some false
  k_str_Builtin : PySem.W.kitOne K (.type "str") (.ref A.Builtin) = some false
  k_tuple_Ref : PySem.W.kitOne K (.type "tuple") (.ref A.Ref) = some false
  k_tuple_Parts : PySem.W.kitOne K (.type "tuple") (.ref A.Parts) = some false
  k_tuple_Table : PySem.W.kitOne K (.type "tuple") (.ref A.Table) = some false
  k_tuple_Instance : PySem.W.kitOne K (.type "tuple") (.ref A.Instance) = some false
  k_tuple_Kin : PySem.W.kitOne K (.type "tuple") (.ref A.Kin) = some false
  k_tuple_Builtin : PySem.W.kitOne K (.type "tuple") (.ref A.Builtin) = some false
  k_list_Ref : PySem.W.kitOne K (.type "list") (.ref A.Ref) = some false
  k_list_Parts : PySem.W.kitOne K (.type "list") (.ref A.Parts) = some false
  k_list_Table : PySem.W.kitOne K (.type "list") (.ref A.Table) = some false
  k_list_Instance : PySem.W.kitOne K (.type "list") (.ref A.Instance) = some false
  k_list_Kin : PySem.W.kitOne K (.type "list") (.ref A.Kin) = some false
  k_list_Builtin : PySem.W.kitOne K (.type "list") (.ref A.Builtin) = some false
  nf_Ref_NoneType : PySem.W.notFirst K A.Ref (.type "NoneType") = true
  su_Ref_NoneType : PySem.W.subIn K (.ref A.Ref) (.type "NoneType") = some false
  nf_Ref_int : PySem.W.notFirst K A.Ref (.type "int") = true
  su_Ref_int : PySem.W.subIn K (.ref A.Ref) (.type "int") = some false
  nf_Ref_str : PySem.W.notFirst K A.Ref (.type "str") = true
  su_Ref_str : PySem.W.subIn K (.ref A.Ref) (.type "str") = some false
  nf_Ref_tuple : PySem.W.notFirst K A.Ref (.type "tuple") = true
  su_Ref_tuple : PySem.W.subIn K (.ref A.Ref) (.type "tuple") = some false
  nf_Ref_list : PySem.W.notFirst K A.Ref (.type "list") = true
  su_Ref_list : PySem.W.subIn K (.ref A.Ref) (.type "list") = some false
  nf_Ref_Builtin : PySem.W.notFirst K A.Ref (.ref A.Builtin) = true
  nf_Ref_Parts : PySem.W.notFirst K A.Ref (.ref A.Parts) = true
  nf_Ref_Table : PySem.W.notFirst K A.Ref (.ref A.Table) = true
  nf_Ref_Instance : PySem.W.notFirst K A.Ref (.ref A.Instance) = true
  nf_Ref_Kin : PySem.W.notFirst K A.Ref (.ref A.Kin) = true
  nf_Ref_Cursor : PySem.W.notFirst K A.Ref (.ref A.Cursor) = true
  nf_Ref_Store : PySem.W.notFirst K A.Ref (.ref A.Store) = true
  nf_Builtin_NoneType : PySem.W.notFirst K A.Builtin (.type "NoneType") = true
  su_Builtin_NoneType : PySem.W.subIn K (.ref A.Builtin) (.type "NoneType") = some false
  nf_Builtin_int : PySem.W.notFirst K A.Builtin (.type "int") = true
  su_Builtin_int : PySem.W.subIn K (.ref A.Builtin) (.type "int") = some false
  nf_Builtin_str : PySem.W.notFirst K A.Builtin (.type "str") = true
  su_Builtin_str : PySem.W.subIn K (.ref A.Builtin) (.type "str") = some false
  nf_Builtin_tuple : PySem.W.notFirst K A.Builtin (.type "tuple") = true
  su_Builtin_tuple : PySem.W.subIn K (.ref A.Builtin) (.type "tuple") = some false
  nf_Builtin_list : PySem.W.notFirst K A.Builtin (.type "list") = true
  su_Builtin_list : PySem.W.subIn K (.ref A.Builtin) (.type "list") = some false
  nf_Builtin_Ref : PySem.W.notFirst K A.Builtin (.ref A.Ref) = true
  nf_Builtin_Parts : PySem.W.notFirst K A.Builtin (.ref A.Parts) = true
  nf_Builtin_Table : PySem.W.notFirst K A.Builtin (.ref A.Table) = true
  nf_Builtin_Instance : PySem.W.notFirst K A.Builtin (.ref A.Instance) = true
  nf_Builtin_Kin : PySem.W.notFirst K A.Builtin (.ref A.Kin) = true
  nf_Builtin_Cursor : PySem.W.notFirst K A.Builtin (.ref A.Cursor) = true
  nf_Builtin_Store : PySem.W.notFirst K A.Builtin (.ref A.Store) = true
  v_MOST_HELD : ∃ t, mg "MOST_HELD" = some (.int 1000 t)
  tagged : Fx K mg "tagged" s_tagged ["key"]
  kind_of : Fx K mg "kind_of" s_kind_of ["store", "value"]
  kind_of_thing : Fx K mg "kind_of_thing" s_kind_of_thing ["thing"]
  is_key : Fx K mg "is_key" s_is_key ["value"]
  check_size : Fx K mg "check_size" s_check_size ["size"]
  check_key : Fx K mg "check_key" s_check_key ["key"]
  put_entry : Fx K mg "put_entry" s_put_entry ["table", "key", "value"]
  make_list : Fx K mg "make_list" s_make_list ["store", "values"]
  make_map : Fx K mg "make_map" s_make_map ["store", "pairs"]
  make_cursor : Fx K mg "make_cursor" s_make_cursor ["store", "x"]
  next_of : Fx K mg "next_of" s_next_of ["store", "ref"]
  law_cell : Fx K mg "_law_cell" s_law_cell ["script", "k"]
  law_begin : Fx K mg "_law_begin" s_law_begin ["script", "k"]
  law_draw : Fx K mg "_law_draw" s_law_draw ["state", "many"]
  law_pick : Fx K mg "_law_pick" s_law_pick ["state", "row"]
  law_source : Fx K mg "_law_source" s_law_source ["store", "state"]
  law_same : Fx K mg "_law_same" s_law_same ["told", "due"]
  law_spoilt : Fx K mg "_law_spoilt" s_law_spoilt ["store", "value", "state"]
  law_refused : Fx K mg "_law_refused" s_law_refused ["store"]
  Ref_init : Ix K A.Ref "Ref.__init__" s_Ref_init ["self", "number"]
  Ref_eq : Qx K A.Ref "Ref.__eq__" s_Ref_eq ["self", "other"]
  Builtin_init : Ix K A.Builtin "Builtin.__init__" s_Builtin_init ["self", "name"]
  Builtin_eq : Qx K A.Builtin "Builtin.__eq__" s_Builtin_eq ["self", "other"]
  Parts_init : Ix K A.Parts "Parts.__init__" s_Parts_init ["self", "held"]
  Parts_fork : Mx K A.Parts "fork" "Parts.fork" s_Parts_fork ["self"]
  Table_init : Ix K A.Table "Table.__init__" s_Table_init ["self"]
  Table_has : Mx K A.Table "has" "Table.has" s_Table_has ["self", "key"]
  Table_put : Mx K A.Table "put" "Table.put" s_Table_put ["self", "key", "value"]
  Table_pairs : Mx K A.Table "pairs" "Table.pairs" s_Table_pairs ["self"]
  Table_many : Px K A.Table "many" "Table.many" s_Table_many ["self"]
  Table_fork : Mx K A.Table "fork" "Table.fork" s_Table_fork ["self"]
  Instance_init : Ix K A.Instance "Instance.__init__" s_Instance_init ["self", "owner"]
  Instance_fork : Mx K A.Instance "fork" "Instance.fork" s_Instance_fork ["self"]
  Kin_init : Ix K A.Kin "Kin.__init__" s_Kin_init ["self", "name", "parent"]
  Kin_fork : Mx K A.Kin "fork" "Kin.fork" s_Kin_fork ["self"]
  Cursor_init : Ix K A.Cursor "Cursor.__init__" s_Cursor_init ["self", "rest"]
  Cursor_fork : Mx K A.Cursor "fork" "Cursor.fork" s_Cursor_fork ["self"]
  Store_init : Ix K A.Store "Store.__init__" s_Store_init ["self", "lines"]
  Store_make : Mx K A.Store "make" "Store.make" s_Store_make ["self", "thing"]
  Store_at : Mx K A.Store "at" "Store.at" s_Store_at ["self", "ref"]
  Store_fork : Mx K A.Store "fork" "Store.fork" s_Store_fork ["self"]
end My
namespace My
open PySem L2 SX XT XS XE
open C8 (pss_cut tCut cutS_slice pe_gc)
def Keep (p : Addr) (H H' : Hp) : Prop := ∀ b o, H b = some o → b ≠ p → H' b = some o
theorem Same.keep {p : Addr} {H H' : Hp} (s : Same H H') : Keep p H H' := fun b o e _ => s b o e
theorem Keep.trans {p : Addr} {H H1 H2 : Hp} (a : Keep p H H1) (b : Keep p H1 H2) : Keep p H H2 := fun c o e n => b c o (a c o e n) n
theorem keep_upd {p : Addr} {H : Hp} {o : HO} : Keep p H (upd H p o) := fun b x e n => by
  rw [upd_ne n]
  exact e
theorem same_upd {H : Hp} {p : Addr} {o : HO} (h : H p = none) : Same H (upd H p o) := fun b x e => by
  rw [upd_ne (ne_of_none e h)]
  exact e
theorem lk_hit {k : Str} {v : V} {r : List (Str × V)} : ((k, v) :: r).lookup k = some v := by
  simp [List.lookup]
theorem ifF {b : Bool} {A B : Prop} (h : b = false) (q : B) : if b = true then A else B := by
  rw [h]
  exact iteF q
theorem ifT {b : Bool} {A B : Prop} (h : b = true) (q : A) : if b = true then A else B := by
  rw [h]
  exact iteT q
theorem ite_or {b : Bool} {A B : Prop} (h1 : b = true → A) (h2 : b = false → B) : if b = true then A else B := by
  cases b with
  | true => exact iteT (h1 rfl)
  | false => exact iteF (h2 rfl)
theorem lk_skip {k k' : Str} {v : V} {r : List (Str × V)} (h : (k == k') = false) : ((k', v) :: r).lookup k = r.lookup k := by
  simp [List.lookup, h]
theorem kit_self {K : PySem.W.Frag} (C : Addr) : PySem.W.kitOne K (.ref C) (.ref C) = some true := if_pos (beq_self_eq_true _)
theorem nf_self {K : PySem.W.Frag} (C : Addr) : PySem.W.notFirst K C (.ref C) = true := by simp [PySem.W.notFirst]
theorem ne_cls {K : PySem.W.Frag} {C D : Addr} (h : PySem.W.kitOne K (.ref C) (.ref D) = some false) : C ≠ D := fun z => by
  rw [z, kit_self] at h
  cases h
theorem sqt_same {K : PySem.W.Frag} {H H' : Hp} {r : Addr} {xs : List V} (s : Same H H') (h : SqT K H r xs) : SqT K H' r xs := by
  rcases h with (h | ⟨ob, h⟩) | h
  · exact .inl (.inl (s _ _ h))
  · exact .inl (.inr ⟨ob, s _ _ h⟩)
  · exact .inr h
theorem Same.put {H H' : Hp} {p : Addr} {o : HO} (s : Same H H') (h : H p = none) : Same H (upd H' p o) := fun b x e => by
  rw [upd_ne (ne_of_none e h)]
  exact s _ _ e
theorem seq_nat {i n : Nat} (h : i < n) : seqIndex? (i : Int) n = some i := by
  unfold seqIndex?
  split <;> first | (simp; omega) | (simp_all; try omega)
theorem ixN_nat {i n : Nat} (h : i < n) : ixN n (i : Int) = some i := by
  unfold ixN
  split <;> first | (simp; omega) | (simp_all; try omega)
end My
namespace My
open PySem L2 SX
open C8 (pss_cut tCut cutS_slice pe_gc)
/-! ### == between values of which one has its own __eq__ -/
section
variable {prog : Program} {w : World} {A : Around} {E : Value → Shared → Prop} {s : Shared} {K : PySem.W.Frag} {x C L f : Addr} {h₀ : Heap} {m : Str → Option Value} {ox : Obj} {od : Option Obj}
theorem cmp_back {a : Value} {Ta id : String} {Q : Value → Shared → Prop} (hu : A.units < cLine) (F : PyProof.Rows.Fr h₀ L s.heap m) (X₀ : K.In h₀) (I : PySem.W.InstAt s.heap x ox C od) (ha : s.TypeIs a Ta) (h1 : Slot Ta "__eq__" id)
    (hsub : PySem.W.subIn K (.ref C) (.type Ta) = some false) (hc : ∀ Q' : Value → Shared → Prop, Q' .notImplemented s → wpAny (model prog w) A (call (.builtin id) [a, .ref x]) Q' E s)
    (hs : PySem.W.findIn K (.ref C) "__eq__" = some (some (.ref f))) (hf : PySem.W.isFn K (.ref f) = true)
    (h : wpAny (model prog w) A (call (.ref f) [.ref x, a]) (PySem.W.CmpBack Q) E s) : wpAny (model prog w) A (richCompare .Eq a (.ref x)) Q E s := by
  have X := X₀.keeps F.keep
  have one : wpAny (model prog w) A (tryCompare (.ref x) "__eq__" a) (fun r s' => ∃ v, r = some v ∧ Q v s') E s := by
    unfold tryCompare
    refine wpAny_bind (PySem.W.ifBound_K X I hs hf (wpAny_mono h (fun v s' hv => ?_) fun _ _ e => e))
    cases v <;> first | exact hv.elim | exact wpAny_pure ⟨_, rfl, hv⟩
  unfold richCompare
  simp only [cmpInfo, ha.oneThing_none]
  refine wpAny_holding (wpAny_bind (wpAny_cRoomFor hu ?_))
  refine wpAny_bind (wpAny_typeOf ha (wpAny_bind (I.type.here ?_)))
  have hne : (Value.ref C == Value.type Ta) = false := rfl
  have hne' : (Value.type Ta != Value.ref C) = true := rfl
  simp only [hne', if_true]
  refine wpAny_bind ((PySem.W.looks_subIn X hsub).here ?_)
  simp only [Bool.false_eq_true, if_false, Bool.not_false, if_true]
  refine wpAny_bind (m := tryCompare a _ _) (wpAny_tryCompare_declines ha h1 (hc _ ⟨rfl, ?_⟩))
  refine wpAny_bind (wpAny_mono one (fun r s' z => ?_) fun _ _ e => e)
  obtain ⟨v, rfl, hq⟩ := z
  exact wpAny_pure hq
end
theorem int_eq_declines_ins (b : Int) (u : Tok) (l : Addr) (o : Obj) :
    PySem.Meets (Builtin.«int.__eq__» ⟨[.int b u, .ref l], []⟩) (fun _ R s => s.heap.get? l = some o ∧ o.data = .plain ∧ (∃ C, o.cls = .ref C) ∧ R (.ok (.ret .notImplemented)) s) :=
  .of_wp fun prog w A R s h => by
    obtain ⟨hp, g, d, tk, os⟩ := s
    obtain ⟨hl, hd, ⟨C, hC⟩, h⟩ := h
    obtain ⟨cls, dd, dat, sl⟩ := o
    cases hd
    cases hC
    wp_walk using PySem.AutoSeq1.wpAny_loadPart' hl, wpAny_load hl
    exact ⟨_, rfl, h⟩
theorem str_eq_declines_ins (b : Str) (u : Tok) (l : Addr) (o : Obj) :
    PySem.Meets (Builtin.«str.__eq__» ⟨[.str b u, .ref l], []⟩) (fun _ R s => s.heap.get? l = some o ∧ o.data = .plain ∧ (∃ C, o.cls = .ref C) ∧ R (.ok (.ret .notImplemented)) s) :=
  .of_wp fun prog w A R s h => by
    obtain ⟨hp, g, d, tk, os⟩ := s
    obtain ⟨hl, hd, ⟨C, hC⟩, h⟩ := h
    obtain ⟨cls, dd, dat, sl⟩ := o
    cases hd
    cases hC
    wp_walk using PySem.AutoSeq1.wpAny_loadPart' hl, wpAny_load hl
    exact ⟨_, rfl, h⟩
/-- the type of a scalar or of an instance -/
inductive TyE (H : Hp) : V → Value → Prop where
  | non : TyE H .non (.type "NoneType")
  | bl (b : Bool) : TyE H (.bl b) (.type "bool")
  | int (i : Int) : TyE H (.int i) (.type "int")
  | str (x : Str) : TyE H (.str x) (.type "str")
  | ins {a C dx : Addr} {fs : List (Str × V)} (e : H a = some (.ins C dx fs)) : TyE H (.ref a) (.ref C)
theorem TyE.looks {X : Cx} {pins : List (Addr × Obj)} {s : Shared} {σ : St} {H : Hp} {y : V} {u t : Value} (I : Inv X pins σ H s) (r : RelV y u) (ty : TyE H y t) : PySem.W.Looks (model X.prog X.w) s.heap (typeOf u) t := by
  cases ty with
  | non => cases (show u = Value.none from r); exact .of_pure rfl
  | bl b => cases (show u = Value.bool b from r); exact .of_pure rfl
  | int i => obtain ⟨t', e⟩ := (show ∃ t, u = Value.int i t from r); cases e; exact .of_pure rfl
  | str x => obtain ⟨t', e⟩ := (show ∃ t, u = Value.str x t from r); cases e; exact .of_pure rfl
  | ins e =>
    cases (show u = Value.ref _ from r)
    obtain ⟨mA, J, _⟩ := ins_get I.hok e
    obtain ⟨od, J, _⟩ := J.look
    exact J.type
/-- what the call of the own == gives back -/
theorem own_run {X : Cx} {n : Nat} {CX : CXT} {f : Addr} {fd : FuncData} {ps : List Str} {sp : Sp} {E : XK} (F : FnOk X.prog X.w X.K X.mg X.base CX n f fd ps sp) (hb : Binds X.K fd ps []) (hx : Passes CX X E) (hr : Room n X.A)
    {pins : List (Addr × Obj)} {s : Shared} {σ : St} {H : Hp} {x y : V} {v u : Value} {Q : VK} (I : Inv X pins σ H s) (rx : RelV x v) (ry : RelV y u) (h : sp [x, y] H (fun z H' => ∃ b, z = .bl b ∧ Q (.bl b) H') E) :
    wpAny (model X.prog X.w) X.A (call (.ref f) [v, u]) (PySem.W.CmpBack (EP X pins σ Q)) X.xe s := by
  have hl := F.len _ _ _ _ h
  have r2 : Vals [x, y] [v, u] := .cons rx (.cons ry .nil)
  refine wpAny_call (codeAny_mono (F.run X.A X.stack s H ⟨[v, u], []⟩ [v, u] [x, y] _ E hr I.env0 (by
    have := hb s [v, u] I.kIn (by simpa using hl)
    simpa using this) r2 h) fun r s' hq => ?_)
  cases r with
  | error e => exact hx pins σ H s e s' I hq
  | ok fl =>
    cases fl with
    | ret w =>
      obtain ⟨z, H', I', rz, b, ez, q⟩ := I.after hq
      subst ez
      cases (show w = Value.bool b from rz)
      exact ⟨.bl b, H', I', rfl, q⟩
    | next => exact False.elim hq
    | brk => exact False.elim hq
    | cont => exact False.elim hq
/-- an instance with its own == on the left -/
theorem op_eqL {X : Cx} {n : Nat} {CX : CXT} {C f : Addr} {fd : FuncData} {ps : List Str} {sp : Sp} {E : XK} (O : OwnEq X.K C f) (F : FnOk X.prog X.w X.K X.mg X.base CX n f fd ps sp) (hb : Binds X.K fd ps []) (hx : Passes CX X E) (hr : Room n X.A) :
    OpR X (compareOp .Eq) (fun x y H Q => ∃ a dx fs tb, x = .ref a ∧ H a = some (.ins C dx fs) ∧ TyE H y tb ∧ PySem.W.notFirst X.K C tb = true ∧ sp [x, y] H (fun z H' => ∃ b, z = .bl b ∧ Q (.bl b) H') E) := by
  intro pins s σ H x y v u Q I rx ry h
  obtain ⟨a, dx, fs, tb, rfl, ha, ty, hn, h⟩ := h
  cases (show v = Value.ref a from rx)
  obtain ⟨mA, J, _⟩ := ins_get I.hok ha
  obtain ⟨od, J, _⟩ := J.look
  obtain ⟨m, hF⟩ := I.fr
  show wpAny (model X.prog X.w) X.A (richCompare .Eq (.ref a) u) (EP X pins σ Q) X.xe s
  exact PySem.W.cmp_K (op := .Eq) hr.units0 hF I.ok.mod.kin J (ty.looks I ry) hn O.at_ O.fn (own_run F hb hx hr I (x := .ref a) (v := .ref a) rfl ry h)
/-- a scalar on the left, an instance with its own == on the right -/
theorem op_eqR {X : Cx} {n : Nat} {CX : CXT} {C f : Addr} {fd : FuncData} {ps : List Str} {sp : Sp} {E : XK} (O : OwnEq X.K C f) (F : FnOk X.prog X.w X.K X.mg X.base CX n f fd ps sp) (hb : Binds X.K fd ps []) (hx : Passes CX X E) (hr : Room n X.A)
    (h1 : PySem.W.subIn X.K (.ref C) (.type "NoneType") = some false) (h2 : PySem.W.subIn X.K (.ref C) (.type "int") = some false) (h3 : PySem.W.subIn X.K (.ref C) (.type "str") = some false) :
    OpR X (compareOp .Eq) (fun x y H Q => ∃ a dx fs, y = .ref a ∧ H a = some (.ins C dx fs) ∧ (x = .non ∨ (∃ i, x = .int i) ∨ ∃ z, x = .str z) ∧ sp [y, x] H (fun z H' => ∃ b, z = .bl b ∧ Q (.bl b) H') E) := by
  intro pins s σ H x y v u Q I rx ry h
  obtain ⟨a, dx, fs, rfl, ha, hx', h⟩ := h
  cases (show u = Value.ref a from ry)
  obtain ⟨mA, J, _⟩ := ins_get I.hok ha
  have hob := J.obj
  obtain ⟨od, J, _⟩ := J.look
  obtain ⟨m, hF⟩ := I.fr
  show wpAny (model X.prog X.w) X.A (richCompare .Eq v (.ref a)) (EP X pins σ Q) X.xe s
  have hc := own_run F hb hx hr I (x := .ref a) (v := .ref a) (u := v) rfl rx h
  rcases hx' with rfl | ⟨i, rfl⟩ | ⟨z, rfl⟩
  · cases (show v = Value.none from rx)
    exact cmp_back hr.units0 hF I.ok.mod.kin J (Ta := "NoneType") rfl PySem.F.slot_NoneType_eq h1 (fun Q' hq => call_gives PySem.F.slot_NoneType_eq rfl PySem.F.entry_NoneType_eq (PySem.F.args_NoneType_eq_2 _ _) (SeqAt.NoneType___eq___none_ref_0 a) hq) O.at_ O.fn hc
  · obtain ⟨t, rfl⟩ := (show ∃ t, v = Value.int i t from rx)
    exact cmp_back hr.units0 hF I.ok.mod.kin J (Ta := "int") (typeIs_int s i t) PySem.F.slot_int_eq h2 (fun Q' hq => call_meets PySem.F.slot_int_eq (typeIs_int s i t) PySem.F.entry_int_eq (PySem.F.args_int_eq_2 _ _) (int_eq_declines_ins i t a _) ⟨hob, rfl, ⟨_, rfl⟩, hq⟩) O.at_ O.fn hc
  · obtain ⟨t, rfl⟩ := (show ∃ t, v = Value.str z t from rx)
    exact cmp_back hr.units0 hF I.ok.mod.kin J (Ta := "str") (typeIs_str s z t) PySem.F.slot_str_eq h3 (fun Q' hq => call_meets PySem.F.slot_str_eq (typeIs_str s z t) PySem.F.entry_str_eq (PySem.F.args_str_eq_2 _ _) (str_eq_declines_ins z t a _) ⟨hob, rfl, ⟨_, rfl⟩, hq⟩) O.at_ O.fn hc
end My
namespace My
open PySem L2 SX XT XS XE
open C8 (pss_cut tCut cutS_slice pe_gc)
/-! ### values -/
inductive Dv where
  | non
  | bl (b : Bool)
  | int (i : Int)
  | str (x : Str)
  | obj (n : Nat)
  | bi (x : Str)
  deriving DecidableEq
abbrev refF (n : Nat) : List (Str × V) := [("number", .int (n : Nat))]
def Has (A : Ads) (H : Hp) : V → Dv → Prop := fun v d => match d with
  | .non => v = .non
  | .bl b => v = .bl b
  | .int i => v = .int i
  | .str x => v = .str x
  | .obj n => ∃ a dx, v = .ref a ∧ H a = some (.ins A.Ref dx (refF n))
  | .bi x => ∃ a dx, v = .ref a ∧ H a = some (.ins A.Builtin dx [("name", .str x)])
/-- what is not a list stays -/
def Sv (H H' : Hp) : Prop := ∀ b u, H b = some u → (∀ xs, u ≠ .lst xs) → H' b = some u
theorem Same.sv {H H' : Hp} (s : Same H H') : Sv H H' := fun b u e _ => s b u e
theorem Sv.trans {H H1 H2 : Hp} (a : Sv H H1) (b : Sv H1 H2) : Sv H H2 := fun c u e n => b c u (a c u e n) n
theorem Keep.sv {H H' : Hp} {p : Addr} {xs : List V} (k : Keep p H H') (hp : H p = some (.lst xs)) : Sv H H' := fun b u e n => k b u e fun z => by
  rw [z, hp] at e
  exact n _ (Option.some.inj e).symm
theorem Has.sv {A : Ads} {H H' : Hp} (s : Sv H H') {v : V} {d : Dv} (h : Has A H v d) : Has A H' v d := by
  cases d with
  | obj n =>
    obtain ⟨a, dx, rfl, e⟩ := h
    exact ⟨a, dx, rfl, s _ _ e fun _ z => by cases z⟩
  | bi x =>
    obtain ⟨a, dx, rfl, e⟩ := h
    exact ⟨a, dx, rfl, s _ _ e fun _ z => by cases z⟩
  | _ => exact h
def Hs (A : Ads) (H : Hp) : List V → List Dv → Prop
  | [], [] => True
  | v :: vs, d :: ds => Has A H v d ∧ Hs A H vs ds
  | _, _ => False
theorem Hs.imp {A : Ads} {H H' : Hp} (s : ∀ v d, Has A H v d → Has A H' v d) : ∀ {vs : List V} {ds : List Dv}, Hs A H vs ds → Hs A H' vs ds
  | [], [], _ => trivial
  | _ :: _, _ :: _, h => ⟨s _ _ h.1, Hs.imp s h.2⟩
  | [], _ :: _, h => h.elim
  | _ :: _, [], h => h.elim
theorem Hs.len {A : Ads} {H : Hp} : ∀ {vs : List V} {ds : List Dv}, Hs A H vs ds → vs.length = ds.length
  | [], [], _ => rfl
  | _ :: _, _ :: _, h => congrArg (· + 1) (Hs.len h.2)
  | [], _ :: _, h => h.elim
  | _ :: _, [], h => h.elim
theorem Hs.at {A : Ads} {H : Hp} : ∀ {vs : List V} {ds : List Dv} {i : Nat} {d : Dv}, Hs A H vs ds → ds[i]? = some d → ∃ v, vs[i]? = some v ∧ Has A H v d
  | _ :: _, _ :: _, 0, _, h, e => by
    simp at e
    exact ⟨_, rfl, e ▸ h.1⟩
  | _ :: _, _ :: _, i + 1, _, h, e => by
    simp at e
    obtain ⟨v, e1, e2⟩ := Hs.at h.2 e
    exact ⟨v, by simpa using e1, e2⟩
  | [], _ :: _, _, _, h, _ => h.elim
  | _ :: _, [], _, _, h, _ => h.elim
  | [], [], _, _, _, e => by simp at e
theorem Hs.app {A : Ads} {H : Hp} : ∀ {vs us : List V} {ds es : List Dv}, Hs A H vs ds → Hs A H us es → Hs A H (vs ++ us) (ds ++ es)
  | [], _, [], _, _, h => h
  | _ :: _, _, _ :: _, _, h, g => ⟨h.1, Hs.app h.2 g⟩
  | [], _, _ :: _, _, h, _ => h.elim
  | _ :: _, _, [], _, h, _ => h.elim
theorem Hs.rev {A : Ads} {H : Hp} : ∀ {vs : List V} {ds : List Dv}, Hs A H vs ds → Hs A H vs.reverse ds.reverse
  | [], [], _ => trivial
  | v :: vs, d :: ds, h => by
    rw [List.reverse_cons, List.reverse_cons]
    exact (Hs.rev h.2).app ⟨h.1, trivial⟩
  | [], _ :: _, h => h.elim
  | _ :: _, [], h => h.elim
theorem Hs.drop {A : Ads} {H : Hp} : ∀ {vs : List V} {ds : List Dv} (n : Nat), Hs A H vs ds → Hs A H (vs.drop n) (ds.drop n)
  | _, _, 0, h => by simpa using h
  | [], [], _ + 1, _ => trivial
  | _ :: _, _ :: _, n + 1, h => Hs.drop n h.2
  | [], _ :: _, _ + 1, h => h.elim
  | _ :: _, [], _ + 1, h => h.elim
theorem Hs.take {A : Ads} {H : Hp} : ∀ {vs : List V} {ds : List Dv} (n : Nat), Hs A H vs ds → Hs A H (vs.take n) (ds.take n)
  | _, _, 0, _ => by simp [Hs]
  | [], [], _ + 1, _ => trivial
  | _ :: _, _ :: _, n + 1, h => ⟨h.1, Hs.take n h.2⟩
  | [], _ :: _, _ + 1, h => h.elim
  | _ :: _, [], _ + 1, h => h.elim
/-! ### kinds -/
def dB : Dv → Bool
  | .bl _ => true
  | _ => false
def dI : Dv → Bool
  | .bl _ => true
  | .int _ => true
  | _ => false
def dS : Dv → Bool
  | .str _ => true
  | _ => false
def dR : Dv → Bool
  | .obj _ => true
  | _ => false
def dBi : Dv → Bool
  | .bi _ => true
  | _ => false
def tyD (A : Ads) : Dv → Value
  | .non => .type "NoneType"
  | .bl _ => .type "bool"
  | .int _ => .type "int"
  | .str _ => .type "str"
  | .obj _ => .ref A.Ref
  | .bi _ => .ref A.Builtin
section
variable {P : Program} {w : World} {K : PySem.W.Frag} {mg : Str → Option Value} {base : Heap} {A : Ads}
theorem has_ty (L : Lib P K mg A) {H : Hp} {v : V} {d : Dv} (h : Has A H v d) : TyX K H v (tyD A d) := by
  cases d with
  | non => cases h; exact .base .non
  | bl b => cases h; exact .base (.bl b)
  | int b => cases h; exact .base (.int b)
  | str b => cases h; exact .base (.str b)
  | obj n =>
    obtain ⟨a, dx, rfl, h⟩ := h
    exact L.c_Ref.ty h
  | bi n =>
    obtain ⟨a, dx, rfl, h⟩ := h
    exact L.c_Builtin.ty h
theorem kit_bool (L : Lib P K mg A) (d : Dv) : PySem.W.kitOne K (tyD A d) (.type "bool") = some (dB d) := by
  cases d with
  | non => exact kit_ty (show kitB "NoneType" "bool" = some false by decide +kernel)
  | bl b => exact kit_ty (show kitB "bool" "bool" = some true by decide +kernel)
  | int b => exact kit_ty (show kitB "int" "bool" = some false by decide +kernel)
  | str b => exact kit_ty (show kitB "str" "bool" = some false by decide +kernel)
  | obj n => exact L.k_Ref_bool
  | bi n => exact L.k_Builtin_bool
theorem kit_int (L : Lib P K mg A) (d : Dv) : PySem.W.kitOne K (tyD A d) (.type "int") = some (dI d) := by
  cases d with
  | non => exact kit_ty (show kitB "NoneType" "int" = some false by decide +kernel)
  | bl b => exact kit_ty (show kitB "bool" "int" = some true by decide +kernel)
  | int b => exact kit_ty (show kitB "int" "int" = some true by decide +kernel)
  | str b => exact kit_ty (show kitB "str" "int" = some false by decide +kernel)
  | obj n => exact L.k_Ref_int
  | bi n => exact L.k_Builtin_int
theorem kit_str (L : Lib P K mg A) (d : Dv) : PySem.W.kitOne K (tyD A d) (.type "str") = some (dS d) := by
  cases d with
  | non => exact kit_ty (show kitB "NoneType" "str" = some false by decide +kernel)
  | bl b => exact kit_ty (show kitB "bool" "str" = some false by decide +kernel)
  | int b => exact kit_ty (show kitB "int" "str" = some false by decide +kernel)
  | str b => exact kit_ty (show kitB "str" "str" = some true by decide +kernel)
  | obj n => exact L.k_Ref_str
  | bi n => exact L.k_Builtin_str
theorem kit_R (L : Lib P K mg A) (d : Dv) : PySem.W.kitOne K (tyD A d) (.ref A.Ref) = some (dR d) := by
  cases d with
  | non => exact L.k_NoneType_Ref
  | bl b => exact L.k_bool_Ref
  | int b => exact L.k_int_Ref
  | str b => exact L.k_str_Ref
  | obj n => exact kit_self _
  | bi n => exact L.k_Builtin_Ref
theorem kit_B (L : Lib P K mg A) (d : Dv) : PySem.W.kitOne K (tyD A d) (.ref A.Builtin) = some (dBi d) := by
  cases d with
  | non => exact L.k_NoneType_Builtin
  | bl b => exact L.k_bool_Builtin
  | int b => exact L.k_int_Builtin
  | str b => exact L.k_str_Builtin
  | obj n => exact L.k_Ref_Builtin
  | bi n => exact kit_self _
theorem kit_list_list {K : PySem.W.Frag} : PySem.W.kitOne K (.type "list") (.type "list") = some true := kit_ty (show kitB "list" "list" = some true by decide +kernel)
/-! ### Ref, Builtin -/
def spI1 (C : Addr) (n : Str) : Sp := fun vs H Q _ => ∃ a dx v, vs = [.ref a, v] ∧ H a = some (.ins C dx []) ∧ ∀ H', Keep a H H' → H' a = some (.ins C dx [(n, v)]) → Q .non H'
theorem ok_Ref_init (L : Lib P K mg A) : FnOk P w K mg base CX0 1 L.Ref_init.f L.Ref_init.fd ["self", "number"] (spI1 A.Ref "number") := by
  refine L.Ref_init.F.ok sc_Ref_init (fun vs H Q E h => ?_) (fun cdv A' outer s H vs Q E hr h => ?_)
  · obtain ⟨a, dx, v, rfl, _⟩ := h
    rfl
  · obtain ⟨a, dx, v, rfl, ha, q⟩ := h
    refine ⟨_, (pss_one (ps_fld (pv 0) (pv 1) rfl)), ?_⟩
    exact ⟨_, rfl, _, rfl, a, A.Ref, dx, [], rfl, ha, L.c_Ref.cl, L.n_Ref_number, (by show 0 < 1000; decide), q _ keep_upd upd_same⟩
theorem ok_Builtin_init (L : Lib P K mg A) : FnOk P w K mg base CX0 1 L.Builtin_init.f L.Builtin_init.fd ["self", "name"] (spI1 A.Builtin "name") := by
  refine L.Builtin_init.F.ok sc_Builtin_init (fun vs H Q E h => ?_) (fun cdv A' outer s H vs Q E hr h => ?_)
  · obtain ⟨a, dx, v, rfl, _⟩ := h
    rfl
  · obtain ⟨a, dx, v, rfl, ha, q⟩ := h
    refine ⟨_, (pss_one (ps_fld (pv 0) (pv 1) rfl)), ?_⟩
    exact ⟨_, rfl, _, rfl, a, A.Builtin, dx, [], rfl, ha, L.c_Builtin.cl, L.n_Builtin_name, (by show 0 < 1000; decide), q _ keep_upd upd_same⟩
def spERq (A : Ads) : Sp := fun vs H Q _ => ∃ a dx n y d, vs = [.ref a, y] ∧ H a = some (.ins A.Ref dx (refF n)) ∧ Has A H y d ∧ Q (.bl (decide (Dv.obj n = d))) H
theorem ok_Ref_eq (L : Lib P K mg A) : FnOk P w K mg base CX0 1 L.Ref_eq.f L.Ref_eq.fd ["self", "other"] (spERq A) := by
  refine L.Ref_eq.F.ok sc_Ref_eq (fun vs H Q E h => ?_) (fun cdv A' outer s H vs Q E hr h => ?_)
  · obtain ⟨a, dx, n, y, d, rfl, _⟩ := h
    rfl
  · obtain ⟨a, dx, n, y, d, rfl, ha, hy, q⟩ := h
    refine ⟨_, (pss_one (ps_ret (pe_and (pe_callB call_isi (by rfl) L.z_isinstance (by decide +kernel) (pa_cons (pv 1) (pa_cons (pe_gc (v := .ref A.Ref) (by rfl) ⟨_, L.c_Ref.g, rfl⟩) pa_nil))) (pe_one (pe_cmpR op_eq (pe_fld (pv 0) rfl) (pe_fld (pv 1) rfl) (nomark _)))))), ?_⟩
    refine ⟨_, rfl, y, .ref A.Ref, tyD A d, .ref A.Ref, dR d, rfl, .own _, has_ty L hy, kit_R L d, dR d, rfl, ?_⟩
    cases d with
    | obj m =>
      obtain ⟨b, dy, rfl, hb⟩ := hy
      refine iteT ⟨_, rfl, a, A.Ref, dx, _, _, rfl, ha, L.c_Ref.cl, L.n_Ref_number, lk_hit, _, rfl, b, A.Ref, dy, _, _, rfl, hb, L.c_Ref.cl, L.n_Ref_number, lk_hit, rfl, ?_⟩
      rw [show decide (V.int (n : Nat) = V.int (m : Nat)) = decide (Dv.obj n = Dv.obj m) by simp; omega]
      exact q
    | _ => exact iteF (by simpa using q)
def spEBq (A : Ads) : Sp := fun vs H Q _ => ∃ a dx n y d, vs = [.ref a, y] ∧ H a = some (.ins A.Builtin dx [("name", .str n)]) ∧ Has A H y d ∧ Q (.bl (decide (Dv.bi n = d))) H
theorem ok_Builtin_eq (L : Lib P K mg A) : FnOk P w K mg base CX0 1 L.Builtin_eq.f L.Builtin_eq.fd ["self", "other"] (spEBq A) := by
  refine L.Builtin_eq.F.ok sc_Builtin_eq (fun vs H Q E h => ?_) (fun cdv A' outer s H vs Q E hr h => ?_)
  · obtain ⟨a, dx, n, y, d, rfl, _⟩ := h
    rfl
  · obtain ⟨a, dx, n, y, d, rfl, ha, hy, q⟩ := h
    refine ⟨_, (pss_one (ps_ret (pe_and (pe_callB call_isi (by rfl) L.z_isinstance (by decide +kernel) (pa_cons (pv 1) (pa_cons (pe_gc (v := .ref A.Builtin) (by rfl) ⟨_, L.c_Builtin.g, rfl⟩) pa_nil))) (pe_one (pe_cmpR op_eq (pe_fld (pv 0) rfl) (pe_fld (pv 1) rfl) (nomark _)))))), ?_⟩
    refine ⟨_, rfl, y, .ref A.Builtin, tyD A d, .ref A.Builtin, dBi d, rfl, .own _, has_ty L hy, kit_B L d, dBi d, rfl, ?_⟩
    cases d with
    | bi m =>
      obtain ⟨b, dy, rfl, hb⟩ := hy
      refine iteT ⟨_, rfl, a, A.Builtin, dx, _, _, rfl, ha, L.c_Builtin.cl, L.n_Builtin_name, lk_hit, _, rfl, b, A.Builtin, dy, _, _, rfl, hb, L.c_Builtin.cl, L.n_Builtin_name, lk_hit, rfl, ?_⟩
      rw [show decide (V.str n = V.str m) = decide (Dv.bi n = Dv.bi m) by simp]
      exact q
    | _ => exact iteF (by simpa using q)
/-- == of two values, of which either both are booleans or none is -/
def rEqM (A : Ads) : R2 := fun x y H Q => ∃ d e, Has A H x d ∧ Has A H y e ∧ dB d = dB e ∧ Q (.bl (decide (d = e))) H
theorem op_eqM {X : Cx} (L : Lib X.prog X.K X.mg A) (hr : Room 1 X.A) : OpR X (compareOp .Eq) (rEqM A) := by
  have FR : FnOk X.prog X.w X.K X.mg X.base CX0 1 L.Ref_eq.f L.Ref_eq.fd ["self", "other"] (spERq A) := ok_Ref_eq L
  have FB : FnOk X.prog X.w X.K X.mg X.base CX0 1 L.Builtin_eq.f L.Builtin_eq.fd ["self", "other"] (spEBq A) := ok_Builtin_eq L
  intro pins s σ H x y v u Q I rx ry h
  obtain ⟨d, e, hd, he, hb, q⟩ := h
  have tyE : ∀ {z : V} {g : Dv}, Has A H z g → TyE H z (tyD A g) := by
    intro z g hz
    cases g with
    | non => cases hz; exact .non
    | bl b => cases hz; exact .bl b
    | int b => cases hz; exact .int b
    | str b => cases hz; exact .str b
    | obj n =>
      obtain ⟨a, dx, rfl, hz⟩ := hz
      exact .ins hz
    | bi n =>
      obtain ⟨a, dx, rfl, hz⟩ := hz
      exact .ins hz
  have nfR : dB e = false → PySem.W.notFirst X.K A.Ref (tyD A e) = true := by
    intro z
    cases e with
    | non => exact L.nf_Ref_NoneType
    | bl b => cases z
    | int b => exact L.nf_Ref_int
    | str b => exact L.nf_Ref_str
    | obj n => exact nf_self _
    | bi n => exact L.nf_Ref_Builtin
  have nfB : dB e = false → PySem.W.notFirst X.K A.Builtin (tyD A e) = true := by
    intro z
    cases e with
    | non => exact L.nf_Builtin_NoneType
    | bl b => cases z
    | int b => exact L.nf_Builtin_int
    | str b => exact L.nf_Builtin_str
    | obj n => exact L.nf_Builtin_Ref
    | bi n => exact nf_self _
  cases hdd : d with
  | obj n =>
    subst hdd
    obtain ⟨a, dx, rfl, ha⟩ := hd
    exact op_eqL L.Ref_eq.m FR L.Ref_eq.b (E := E0) pass0 hr pins s σ H _ y v u Q I rx ry ⟨a, dx, _, _, rfl, ha, tyE he, nfR hb.symm, a, dx, n, y, e, rfl, ha, he, _, rfl, q⟩
  | bi n =>
    subst hdd
    obtain ⟨a, dx, rfl, ha⟩ := hd
    exact op_eqL L.Builtin_eq.m FB L.Builtin_eq.b (E := E0) pass0 hr pins s σ H _ y v u Q I rx ry ⟨a, dx, _, _, rfl, ha, tyE he, nfB hb.symm, a, dx, n, y, e, rfl, ha, he, _, rfl, q⟩
  | _ =>
    subst hdd
    cases hee : e with
    | obj n =>
      subst hee
      obtain ⟨a, dx, rfl, ha⟩ := he
      first
        | (cases hb; done)
        | exact op_eqR L.Ref_eq.m FR L.Ref_eq.b (E := E0) pass0 hr L.su_Ref_NoneType L.su_Ref_int L.su_Ref_str pins s σ H _ _ v u Q I rx ry ⟨a, dx, _, rfl, ha, (by first | exact .inl hd | exact .inr (.inl ⟨_, hd⟩) | exact .inr (.inr ⟨_, hd⟩)), a, dx, n, _, _, rfl, ha, hd, _, rfl, by simpa [eq_comm] using q⟩
    | bi n =>
      subst hee
      obtain ⟨a, dx, rfl, ha⟩ := he
      first
        | (cases hb; done)
        | exact op_eqR L.Builtin_eq.m FB L.Builtin_eq.b (E := E0) pass0 hr L.su_Builtin_NoneType L.su_Builtin_int L.su_Builtin_str pins s σ H _ _ v u Q I rx ry ⟨a, dx, _, rfl, ha, (by first | exact .inl hd | exact .inr (.inl ⟨_, hd⟩) | exact .inr (.inr ⟨_, hd⟩)), a, dx, n, _, _, rfl, ha, hd, _, rfl, by simpa [eq_comm] using q⟩
    | _ =>
      subst hee
      cases hd
      cases he
      first
        | (cases hb; done)
        | exact op_eq pins s σ H _ _ v u Q I rx ry ⟨(by rfl), by simpa using q⟩
end
end My
namespace My
open PySem L2 SX XT XS XE
open C8 (pss_cut tCut cutS_slice pe_gc)
def tabF (d : Addr) : List (Str × V) := [("_entries", .ref d)]
structure TblAt (P : Program) (w : World) (A : Ads) (H : Hp) (t : Addr) (d : Addr) (es : List Ent) : Prop where
  ins : ∃ dx, H t = some (.ins A.Table dx (tabF d))
  tab : XT.TabAt P w H d es
  vals : ∀ e ∈ es, ∃ q, e.2.2 = .ref q ∧ ∃ v, H q = some (.tup [e.1, v])
section
variable {P : Program} {w : World} {K : PySem.W.Frag} {mg : Str → Option Value} {base : Heap} {A : Ads}
theorem kit_bool_bool : PySem.W.kitOne K (.type "bool") (.type "bool") = some true := kit_ty (show kitB "bool" "bool" = some true by decide +kernel)
theorem kit_int_bool : PySem.W.kitOne K (.type "int") (.type "bool") = some false := kit_ty (show kitB "int" "bool" = some false by decide +kernel)
theorem kit_str_bool : PySem.W.kitOne K (.type "str") (.type "bool") = some false := kit_ty (show kitB "str" "bool" = some false by decide +kernel)
theorem kit_non_bool : PySem.W.kitOne K (.type "NoneType") (.type "bool") = some false := kit_ty (show kitB "NoneType" "bool" = some false by decide +kernel)
theorem units64 {A : Around} {k : Nat} (hr : Room k A) : A.units + 64 < cLine := hr.units
theorem tab_lk (d : Addr) : (tabF d).lookup ("_entries" : Str) = some (.ref d) := lk_hit
theorem tab_none {d : Addr} {n : Str} (h : (n == ("_entries" : Str)) = false) : (tabF d).lookup n = none := by
  simp [tabF, List.lookup, h]
theorem TblAt.same {H H' : Hp} {t d : Addr} {es : List Ent} (s : Same H H') (h : TblAt P w A H t d es) : TblAt P w A H' t d es := by
  obtain ⟨⟨dx, h1⟩, h2, h3⟩ := h
  refine ⟨⟨dx, s _ _ h1⟩, ⟨s _ _ h2.at_, fun e he => ⟨(h2.keys e he).1, s _ _ (h2.keys e he).2⟩, h2.len⟩, fun e he => ?_⟩
  obtain ⟨q, e1, v, e2⟩ := h3 e he
  exact ⟨q, e1, v, s _ _ e2⟩
def spTagged : Sp := fun vs H Q _ => ∃ k, vs = [k] ∧ keyOk k = true ∧ ∀ p, H p = none → Q (.ref p) (upd H p (.tup [.bl (isB k), k]))
theorem ok_tagged (L : Lib P K mg A) : FnOk P w K mg base CX0 1 L.tagged.f L.tagged.fd ["key"] spTagged := by
  refine L.tagged.F.ok sc_tagged (fun vs H Q E h => ?_) (fun cdv A' outer s H vs Q E hr h => ?_)
  · obtain ⟨k, rfl, _⟩ := h
    rfl
  · obtain ⟨k, rfl, hk, q⟩ := h
    refine ⟨_, (pss_one (ps_ret (pe_tup (pa_cons (pe_callB call_isi (by rfl) L.z_isinstance (by decide +kernel) (pa_cons (pv 0) (pa_cons (pe_bltn (v := .ty "bool") (by rfl) L.z_bool (by decide +kernel) rfl) pa_nil))) (pa_cons (pv 0) pa_nil))))), ?_⟩
    cases k with
    | non => exact ⟨_, rfl, _, .ty "bool", _, _, false, rfl, .ty _, .base .non, kit_non_bool, _, rfl, (by show 2 ≤ sizeLine; decide), fun p np => q p np⟩
    | bl b => exact ⟨_, rfl, _, .ty "bool", _, _, true, rfl, .ty _, .base (.bl b), kit_bool_bool, _, rfl, (by show 2 ≤ sizeLine; decide), fun p np => q p np⟩
    | int i => exact ⟨_, rfl, _, .ty "bool", _, _, false, rfl, .ty _, .base (.int i), kit_int_bool, _, rfl, (by show 2 ≤ sizeLine; decide), fun p np => q p np⟩
    | str x => exact ⟨_, rfl, _, .ty "bool", _, _, false, rfl, .ty _, .base (.str x), kit_str_bool, _, rfl, (by show 2 ≤ sizeLine; decide), fun p np => q p np⟩
    | _ => cases hk
def spTI (P : Program) (w : World) (A : Ads) : Sp := fun vs H Q _ => ∃ t dx, vs = [.ref t] ∧ H t = some (.ins A.Table dx []) ∧ ∀ H' d, Keep t H H' → H d = none → TblAt P w A H' t d [] → Q .non H'
theorem ok_Table_init (L : Lib P K mg A) : FnOk P w K mg base CX0 1 L.Table_init.f L.Table_init.fd ["self"] (spTI P w A) := by
  refine L.Table_init.F.ok sc_Table_init (fun vs H Q E h => ?_) (fun cdv A' outer s H vs Q E hr h => ?_)
  · obtain ⟨t, dx, rfl, _⟩ := h
    rfl
  · obtain ⟨t, dx, rfl, ha, q⟩ := h
    refine ⟨_, (pss_one (ps_fld (pv 0) pe_tnew rfl)), ?_⟩
    refine fun d nd => ⟨_, rfl, t, A.Table, dx, [], rfl, (by rw [upd_ne (ne_of_none ha nd)]; exact ha), L.c_Table.cl, L.n_Table__entries, (by show 0 < 1000; decide), ?_⟩
    have ntd : d ≠ t := fun z => by rw [z, ha] at nd; cases nd
    refine q _ d (fun b o e n => by rw [upd_ne n, upd_ne (ne_of_none e nd)]; exact e) nd ⟨⟨dx, upd_same⟩, ⟨by rw [upd_ne ntd, upd_same]; rfl, (fun e he => nomatch he), Nat.zero_le _⟩, (fun e he => nomatch he)⟩
/-- only new things were made -/
def spTHas (P : Program) (w : World) (A : Ads) : Sp := fun vs H Q _ => ∃ t d es k, vs = [.ref t, k] ∧ TblAt P w A H t d es ∧ keyOk k = true ∧ ∀ H', Same H H' → Q (.bl (valT es k).isSome) H'
theorem ok_Table_has (L : Lib P K mg A) : FnOk P w K mg base CX0 2 L.Table_has.f L.Table_has.fd ["self", "key"] (spTHas P w A) := by
  have G_tagged : FnOk P w K mg base CX0 1 L.tagged.f L.tagged.fd ["key"] spTagged := ok_tagged L
  refine L.Table_has.F.ok sc_Table_has (fun vs H Q E h => ?_) (fun cdv A' outer s H vs Q E hr h => ?_)
  · obtain ⟨t, d, es, k, rfl, _⟩ := h
    rfl
  · obtain ⟨t, d, es, k, rfl, T, hk, q⟩ := h
    refine ⟨_, (pss_one (ps_ret (pe_cmp (pc_tin (units64 hr) (pe_call G_tagged (hr.mono (by omega)) (by rfl) L.tagged.g L.tagged.F.kp L.tagged.b .nil pass0 (pa_cons (pv 1) pa_nil)) (pe_fld (pv 0) rfl))))), ?_⟩
    refine ⟨_, rfl, k, rfl, hk, fun p np => ?_⟩
    have u1 := same_upd (o := .tup [.bl (isB k), k]) np
    obtain ⟨⟨dx, h1⟩, h2, h3⟩ := T.same u1
    exact ⟨_, rfl, t, A.Table, dx, _, _, rfl, h1, L.c_Table.cl, L.n_Table__entries, tab_lk d, d, p, k, es, rfl, rfl, h2, ⟨hk, upd_same⟩, q _ u1⟩
def spTPut (P : Program) (w : World) (A : Ads) : Sp := fun vs H Q _ => ∃ t d es k v, vs = [.ref t, k, v] ∧ TblAt P w A H t d es ∧ keyOk k = true ∧ es.length < 1000000 ∧
  ∀ H' b q, Keep d H H' → TblAt P w A H' t d (putT es k b (.ref q)) → H' q = some (.tup [k, v]) → H q = none → Q .non H'
theorem ok_Table_put (L : Lib P K mg A) : FnOk P w K mg base CX0 2 L.Table_put.f L.Table_put.fd ["self", "key", "value"] (spTPut P w A) := by
  have G_tagged : FnOk P w K mg base CX0 1 L.tagged.f L.tagged.fd ["key"] spTagged := ok_tagged L
  refine L.Table_put.F.ok sc_Table_put (fun vs H Q E h => ?_) (fun cdv A' outer s H vs Q E hr h => ?_)
  · obtain ⟨t, d, es, k, v, rfl, _⟩ := h
    rfl
  · obtain ⟨t, d, es, k, v, rfl, T, hk, hl, kk⟩ := h
    refine ⟨_, (pss_one (ps_tput (units64 hr) (pe_fld (pv 0) rfl) (pe_call G_tagged (hr.mono (by omega)) (by rfl) L.tagged.g L.tagged.F.kp L.tagged.b .nil pass0 (pa_cons (pv 1) pa_nil)) (pe_tup (pa_cons (pv 1) (pa_cons (pv 2) pa_nil))) (by rfl))), ?_⟩
    refine ⟨_, rfl, _, rfl, (by show 2 ≤ sizeLine; decide), fun q nq => ?_⟩
    have u1 := same_upd (o := .tup [k, v]) nq
    obtain ⟨⟨dx, h1⟩, h2, h3⟩ := T.same u1
    refine ⟨_, rfl, t, A.Table, dx, _, _, rfl, h1, L.c_Table.cl, L.n_Table__entries, tab_lk d, _, rfl, k, rfl, hk, fun p np => ?_⟩
    have u2 := same_upd (o := .tup [.bl (isB k), k]) np
    obtain ⟨⟨dx2, g1⟩, g2, g3⟩ := (T.same u1).same u2
    refine ⟨d, p, k, es, rfl, rfl, g2, ⟨hk, upd_same⟩, ?_⟩
    have ntd : t ≠ d := fun z => by rw [z, g2.at_] at g1; cases g1
    have nqd : q ≠ d := fun z => by rw [z] at nq; rw [T.tab.at_] at nq; cases nq
    have hq2 := u2 _ _ (upd_same (H := H) (a := q) (o := .tup [k, v]))
    refine kk _ p q (fun b o e n => by rw [upd_ne n]; exact u2 _ _ (u1 _ _ e)) ⟨⟨dx2, by rw [upd_ne ntd]; exact g1⟩, g2.put ⟨hk, upd_same⟩ hl, fun e he => ?_⟩ (by rw [upd_ne nqd]; exact hq2) nq
    have old : ∀ e ∈ es, ∃ q', e.2.2 = .ref q' ∧ ∃ v', (upd (upd (upd H q (.tup [k, v])) p (.tup [.bl (isB k), k])) d (TabO P w d (putT es k p (.ref q)))) q' = some (.tup [e.1, v']) := fun e he => by
      obtain ⟨q', e1, v', e2⟩ := g3 e he
      exact ⟨q', e1, v', by rw [upd_ne (fun z => by rw [z, g2.at_] at e2; cases e2)]; exact e2⟩
    unfold putT at he
    split at he
    · obtain ⟨e0, h0, ee⟩ := List.mem_map.mp he
      split at ee
      · rename_i hk0
        subst ee
        exact ⟨q, rfl, v, by rw [upd_ne nqd, hk0]; exact hq2⟩
      · subst ee
        exact old e0 h0
    · rcases List.mem_append.mp he with he | he
      · exact old e he
      · rw [List.mem_singleton] at he
        subst he
        exact ⟨q, rfl, v, by rw [upd_ne nqd]; exact hq2⟩
def spTPairs (P : Program) (w : World) (A : Ads) : Sp := fun vs H Q _ => ∃ t d es, vs = [.ref t] ∧ TblAt P w A H t d es ∧ ∀ H' l, Same H H' → H l = none → H' l = some (.lst (es.map (·.2.2))) → Q (.ref l) H'
theorem ok_Table_pairs (L : Lib P K mg A) : FnOk P w K mg base CX0 1 L.Table_pairs.f L.Table_pairs.fd ["self"] (spTPairs P w A) := by
  refine L.Table_pairs.F.ok sc_Table_pairs (fun vs H Q E h => ?_) (fun cdv A' outer s H vs Q E hr h => ?_)
  · obtain ⟨t, d, es, rfl, _⟩ := h
    rfl
  · obtain ⟨t, d, es, rfl, T, kk⟩ := h
    refine ⟨_, (pss_one (ps_ret (pe_callTy (call_list_vals rfl) (by rfl) L.z_list (by decide +kernel) (pa_cons (pe_tvals (pe_fld (pv 0) rfl)) pa_nil)))), ?_⟩
    obtain ⟨⟨dx, h1⟩, h2, h3⟩ := id T
    refine ⟨_, rfl, t, A.Table, dx, _, _, rfl, h1, L.c_Table.cl, L.n_Table__entries, tab_lk d, d, es, rfl, h2, fun v nv => ?_⟩
    have u1 := same_upd (o := ViewO d v) nv
    refine ⟨v, d, es, rfl, upd_same, (T.same u1).tab, fun l nl => ?_⟩
    have u2 := same_upd (o := .lst (es.map (·.2.2))) nl
    refine kk _ l (u1.trans u2) ?_ upd_same
    cases e : H l with
    | none => rfl
    | some o =>
      rw [u1 _ _ e] at nl
      cases nl
def spTMany (P : Program) (w : World) (A : Ads) : Sp := fun vs H Q _ => ∃ t d es, vs = [.ref t] ∧ TblAt P w A H t d es ∧ Q (.int (es.length : Nat)) H
theorem ok_Table_many (L : Lib P K mg A) : FnOk P w K mg base CX0 1 L.Table_many.f L.Table_many.fd ["self"] (spTMany P w A) := by
  refine L.Table_many.F.ok sc_Table_many (fun vs H Q E h => ?_) (fun cdv A' outer s H vs Q E hr h => ?_)
  · obtain ⟨t, d, es, rfl, _⟩ := h
    rfl
  · obtain ⟨t, d, es, rfl, T, kk⟩ := h
    refine ⟨_, (pss_one (ps_ret (pe_callB call_len_tab (by rfl) L.z_len PySem.boot_len (pa_cons (pe_fld (pv 0) rfl) pa_nil)))), ?_⟩
    obtain ⟨⟨dx, h1⟩, h2, h3⟩ := id T
    exact ⟨_, rfl, t, A.Table, dx, _, _, rfl, h1, L.c_Table.cl, L.n_Table__entries, tab_lk d, d, es, rfl, h2, kk⟩
end
end My
namespace My
open PySem L2 SX XT XS XE
open C8 (pss_cut tCut cutS_slice pe_gc)
/-! ### things -/
def toV : Dv → V
  | .non => .non
  | .bl b => .bl b
  | .int i => .int i
  | .str x => .str x
  | _ => .non
def keyD : Dv → Bool
  | .obj _ => false
  | .bi _ => false
  | _ => true
theorem has_key {A : Ads} {H : Hp} {v : V} {d : Dv} (h : Has A H v d) (k : keyD d = true) : v = toV d ∧ keyOk v = true := by
  cases d with
  | obj n => cases k
  | bi x => cases k
  | _ => cases h; exact ⟨rfl, rfl⟩
theorem key_has {A : Ads} {H : Hp} {d : Dv} (k : keyD d = true) : Has A H (toV d) d := by
  cases d with
  | obj n => cases k
  | bi x => cases k
  | _ => rfl
theorem key_ok {d : Dv} (k : keyD d = true) : keyOk (toV d) = true := by
  cases d with
  | obj n => cases k
  | bi x => cases k
  | _ => rfl
theorem toV_inj {d e : Dv} (hd : keyD d = true) (he : keyD e = true) (h : toV d = toV e) : d = e := by
  cases d <;> cases e <;> first | rfl | (cases hd; done) | (cases he; done) | (cases h; rfl) | (cases h; done)
def Ents (A : Ads) (H : Hp) : List Ent → List (Dv × Dv) → Prop
  | [], [] => True
  | e :: es, p :: ps => (keyD p.1 = true ∧ e.1 = toV p.1 ∧ ∃ q v, e.2.2 = .ref q ∧ H q = some (.tup [e.1, v]) ∧ Has A H v p.2) ∧ Ents A H es ps
  | _, _ => False
inductive Th where
  | parts (ds : List Dv)
  | table (es : List (Dv × Dv))
  | inst (o : Dv) (ns : List (Str × Dv))
  | kin (nm : Str) (par : Dv) (ms : List (Str × Dv))
  | cursor (ds : List Dv)
def Nmd (A : Ads) (H : Hp) : List (Key × V) → List (Str × Dv) → Prop
  | [], [] => True
  | e :: es, p :: ps => (e.1 = .inr p.1 ∧ Has A H e.2 p.2) ∧ Nmd A H es ps
  | _, _ => False
def kinF (nm : Str) (v : V) (m : Addr) : List (Str × V) := [("name", .str nm), ("parent", v), ("methods", .ref m)]
def insF (v : V) (m : Addr) : List (Str × V) := [("owner", v), ("named", .ref m)]
def ThAt (P : Program) (w : World) (A : Ads) (H : Hp) (x m : Addr) : Th → Prop
  | .parts ds => ∃ dx vs, H x = some (.ins A.Parts dx [("held", .ref m)]) ∧ H m = some (.lst vs) ∧ Hs A H vs ds
  | .cursor ds => ∃ dx vs, H x = some (.ins A.Cursor dx [("rest", .ref m)]) ∧ H m = some (.lst vs) ∧ Hs A H vs ds
  | .table es => ∃ ents, TblAt P w A H x m ents ∧ Ents A H ents es ∧ (es.map Prod.fst).Nodup ∧ es.length ≤ 1000
  | .inst o ns => ∃ dx v kvs, H x = some (.ins A.Instance dx (insF v m)) ∧ Has A H v o ∧ H m = some (.dK kvs) ∧ Nmd A H kvs ns
  | .kin nm par ms => ∃ dx v kvs, H x = some (.ins A.Kin dx (kinF nm v m)) ∧ Has A H v par ∧ H m = some (.dK kvs) ∧ Nmd A H kvs ms
theorem Ents.imp {A : Ads} {H H' : Hp} (s : ∀ v d, Has A H v d → Has A H' v d) (t : ∀ q xs, H q = some (.tup xs) → H' q = some (.tup xs)) : ∀ {es : List Ent} {ps : List (Dv × Dv)}, Ents A H es ps → Ents A H' es ps
  | [], [], _ => trivial
  | _ :: _, _ :: _, ⟨⟨k, e, q, v, h1, h2, h3⟩, r⟩ => ⟨⟨k, e, q, v, h1, t _ _ h2, s _ _ h3⟩, Ents.imp s t r⟩
  | [], _ :: _, h => h.elim
  | _ :: _, [], h => h.elim
theorem Nmd.imp {A : Ads} {H H' : Hp} (s : ∀ v d, Has A H v d → Has A H' v d) : ∀ {es : List (Key × V)} {ps : List (Str × Dv)}, Nmd A H es ps → Nmd A H' es ps
  | [], [], _ => trivial
  | _ :: _, _ :: _, h => ⟨⟨h.1.1, s _ _ h.1.2⟩, Nmd.imp s h.2⟩
  | [], _ :: _, h => h.elim
  | _ :: _, [], h => h.elim
/-- values and tuples stay -/
structure Vk (A : Ads) (H H' : Hp) : Prop where
  v : ∀ v d, Has A H v d → Has A H' v d
  t : ∀ q xs, H q = some (.tup xs) → H' q = some (.tup xs)
theorem Sv.vk {A : Ads} {H H' : Hp} (s : Sv H H') : Vk A H H' := ⟨fun _ _ h => h.sv s, fun q xs e => s _ _ e fun _ z => by cases z⟩
theorem Vk.trans {A : Ads} {H H1 H2 : Hp} (a : Vk A H H1) (b : Vk A H1 H2) : Vk A H H2 := ⟨fun v d h => b.v v d (a.v v d h), fun q xs h => b.t q xs (a.t q xs h)⟩
theorem Vk.rfl' {A : Ads} {H : Hp} : Vk A H H := ⟨fun _ _ h => h, fun _ _ h => h⟩
section
variable {P : Program} {w : World} {K : PySem.W.Frag} {mg : Str → Option Value} {base : Heap} {A : Ads}
theorem ThAt.imp {H H' : Hp} (k : Vk A H H') {x m : Addr} {th : Th} (hx : ∀ u, H x = some u → H' x = some u) (hm : ∀ u, H m = some u → H' m = some u) (h : ThAt P w A H x m th) : ThAt P w A H' x m th := by
  cases th with
  | parts ds =>
    obtain ⟨dx, vs, h1, h2, h3⟩ := h
    exact ⟨dx, vs, hx _ h1, hm _ h2, h3.imp k.v⟩
  | cursor ds =>
    obtain ⟨dx, vs, h1, h2, h3⟩ := h
    exact ⟨dx, vs, hx _ h1, hm _ h2, h3.imp k.v⟩
  | table es =>
    obtain ⟨ents, ⟨⟨dx, h1⟩, h2, h3⟩, h4, h5⟩ := h
    refine ⟨ents, ⟨⟨dx, hx _ h1⟩, ⟨hm _ h2.at_, fun e he => ⟨(h2.keys e he).1, k.t _ _ (h2.keys e he).2⟩, h2.len⟩, fun e he => ?_⟩, h4.imp k.v k.t, h5⟩
    obtain ⟨q, e1, v, e2⟩ := h3 e he
    exact ⟨q, e1, v, k.t _ _ e2⟩
  | inst o ns =>
    obtain ⟨dx, v, kvs, h1, h2, h3, h4⟩ := h
    exact ⟨dx, v, kvs, hx _ h1, k.v _ _ h2, hm _ h3, h4.imp k.v⟩
  | kin nm par ms =>
    obtain ⟨dx, v, kvs, h1, h2, h3, h4⟩ := h
    exact ⟨dx, v, kvs, hx _ h1, k.v _ _ h2, hm _ h3, h4.imp k.v⟩
def clsT (A : Ads) : Th → Addr
  | .parts _ => A.Parts
  | .table _ => A.Table
  | .inst _ _ => A.Instance
  | .kin _ _ _ => A.Kin
  | .cursor _ => A.Cursor
theorem ThAt.x {H : Hp} {x m : Addr} {th : Th} (h : ThAt P w A H x m th) : ∃ dx fs, H x = some (.ins (clsT A th) dx fs) := by
  cases th with
  | parts ds => obtain ⟨dx, vs, h1, _⟩ := h; exact ⟨_, _, h1⟩
  | cursor ds => obtain ⟨dx, vs, h1, _⟩ := h; exact ⟨_, _, h1⟩
  | table es => obtain ⟨ents, ⟨⟨dx, h1⟩, _, _⟩, _⟩ := h; exact ⟨_, _, h1⟩
  | inst o ns => obtain ⟨dx, v, kvs, h1, _⟩ := h; exact ⟨_, _, h1⟩
  | kin nm par ms => obtain ⟨dx, v, kvs, h1, _⟩ := h; exact ⟨_, _, h1⟩
theorem ThAt.m {H : Hp} {x m : Addr} {th : Th} (h : ThAt P w A H x m th) : ∃ u, H m = some u ∧ (∀ C dx fs, u ≠ .ins C dx fs) ∧ ∀ xs, u ≠ .tup xs := by
  cases th with
  | parts ds => obtain ⟨dx, vs, _, h1, _⟩ := h; exact ⟨_, h1, nofun, nofun⟩
  | cursor ds => obtain ⟨dx, vs, _, h1, _⟩ := h; exact ⟨_, h1, nofun, nofun⟩
  | table es => obtain ⟨ents, ⟨_, h2, _⟩, _⟩ := h; exact ⟨_, h2.at_, nofun, nofun⟩
  | inst o ns => obtain ⟨dx, v, kvs, _, _, h1, _⟩ := h; exact ⟨_, h1, nofun, nofun⟩
  | kin nm par ms => obtain ⟨dx, v, kvs, _, _, h1, _⟩ := h; exact ⟨_, h1, nofun, nofun⟩
theorem clsT_ne (L : Lib P K mg A) (th : Th) : clsT A th ≠ A.Ref ∧ clsT A th ≠ A.Builtin := by
  cases th with
  | parts ds => exact ⟨ne_cls L.k_Parts_Ref, ne_cls L.k_Parts_Builtin⟩
  | cursor ds => exact ⟨ne_cls L.k_Cursor_Ref, ne_cls L.k_Cursor_Builtin⟩
  | table es => exact ⟨ne_cls L.k_Table_Ref, ne_cls L.k_Table_Builtin⟩
  | inst o ns => exact ⟨ne_cls L.k_Instance_Ref, ne_cls L.k_Instance_Builtin⟩
  | kin nm par ms => exact ⟨ne_cls L.k_Kin_Ref, ne_cls L.k_Kin_Builtin⟩
/-! ### the store -/
structure St where
  things : List Th
  out : List Str
  lines : List Str
  taken : Nat
def stF (t o l : Addr) (n : Nat) : List (Str × V) := [("things", .ref t), ("output", .ref o), ("lines", .ref l), ("taken", .int (n : Nat))]
theorem st_things (t o l : Addr) (n : Nat) : (stF t o l n).lookup ("things" : Str) = some (.ref t) := lk_hit
theorem st_output (t o l : Addr) (n : Nat) : (stF t o l n).lookup ("output" : Str) = some (.ref o) := by
  unfold stF
  rw [lk_skip (by decide +kernel)]
  exact lk_hit
theorem st_lines (t o l : Addr) (n : Nat) : (stF t o l n).lookup ("lines" : Str) = some (.ref l) := by
  unfold stF
  rw [lk_skip (by decide +kernel), lk_skip (by decide +kernel)]
  exact lk_hit
theorem st_taken (t o l : Addr) (n : Nat) : (stF t o l n).lookup ("taken" : Str) = some (.int (n : Nat)) := by
  unfold stF
  rw [lk_skip (by decide +kernel), lk_skip (by decide +kernel), lk_skip (by decide +kernel)]
  exact lk_hit
theorem st_no {n : Str} (t o l : Addr) (k : Nat) (h1 : (n == ("things" : Str)) = false) (h2 : (n == ("output" : Str)) = false) (h3 : (n == ("lines" : Str)) = false) (h4 : (n == ("taken" : Str)) = false) : (stF t o l k).lookup n = none := by
  unfold stF
  rw [lk_skip h1, lk_skip h2, lk_skip h3, lk_skip h4]
  rfl
/-- the addresses of a store -/
structure Sa where
  s : Addr
  t : Addr
  o : Addr
  l : Addr
  X : List Addr
  M : List Addr
def Sa.own (a : Sa) (b : Addr) : Prop := b = a.s ∨ b = a.t ∨ b = a.o ∨ b = a.l ∨ b ∈ a.X ∨ b ∈ a.M
structure SM (P : Program) (w : World) (A : Ads) (H : Hp) (a : Sa) (S : St) : Prop where
  s_ : ∃ dx, H a.s = some (.ins A.Store dx (stF a.t a.o a.l S.taken))
  t_ : H a.t = some (.lst (a.X.map V.ref))
  o_ : H a.o = some (.lst (S.out.map V.str))
  l_ : H a.l = some (.lst (S.lines.map V.str))
  lx : a.X.length = S.things.length
  lm : a.M.length = S.things.length
  th : ∀ (i : Nat) x m d, a.X[i]? = some x → a.M[i]? = some m → S.things[i]? = some d → ThAt P w A H x m d
  nd : (a.t :: a.o :: a.l :: a.M).Nodup
  nx : a.X.Nodup
theorem SM.get {H : Hp} {a : Sa} {S : St} (h : SM P w A H a S) {i : Nat} {d : Th} (e : S.things[i]? = some d) : ∃ x m, a.X[i]? = some x ∧ a.M[i]? = some m ∧ ThAt P w A H x m d := by
  have hi := (List.getElem?_eq_some_iff.mp e).1
  have h1 : i < a.X.length := by rw [h.lx]; exact hi
  have h2 : i < a.M.length := by rw [h.lm]; exact hi
  exact ⟨a.X[i], a.M[i], List.getElem?_eq_getElem h1, List.getElem?_eq_getElem h2, h.th i _ _ d (List.getElem?_eq_getElem h1) (List.getElem?_eq_getElem h2) e⟩
theorem SM.xs {H : Hp} {a : Sa} {S : St} (h : SM P w A H a S) {x : Addr} (e : x ∈ a.X) : ∃ th m, ThAt P w A H x m th := by
  obtain ⟨i, hi, e⟩ := List.getElem_of_mem e
  have h1 : i < S.things.length := by rw [← h.lx]; exact hi
  obtain ⟨x', m, e1, e2, t⟩ := h.get (List.getElem?_eq_getElem h1)
  rw [List.getElem?_eq_getElem hi] at e1
  cases e1
  rw [e] at t
  exact ⟨_, m, t⟩
theorem SM.ms {H : Hp} {a : Sa} {S : St} (h : SM P w A H a S) {m : Addr} (e : m ∈ a.M) : ∃ th x, ThAt P w A H x m th := by
  obtain ⟨i, hi, e⟩ := List.getElem_of_mem e
  have h1 : i < S.things.length := by rw [← h.lm]; exact hi
  obtain ⟨x, m', e1, e2, t⟩ := h.get (List.getElem?_eq_getElem h1)
  rw [List.getElem?_eq_getElem hi] at e2
  cases e2
  rw [e] at t
  exact ⟨_, x, t⟩
/-- no value is the store's own -/
theorem SM.nv {H : Hp} {a : Sa} {S : St} (L : Lib P K mg A) (h : SM P w A H a S) {b : Addr} (hb : a.own b) : ∃ u, H b = some u ∧ (∀ dx fs, u ≠ .ins A.Ref dx fs) ∧ (∀ dx fs, u ≠ .ins A.Builtin dx fs) ∧ ∀ xs, u ≠ .tup xs := by
  rcases hb with rfl | rfl | rfl | rfl | hb | hb
  · obtain ⟨dx, e⟩ := h.s_
    refine ⟨_, e, fun _ _ z => ?_, fun _ _ z => ?_, nofun⟩
    · injection z with z; exact ne_cls L.k_Store_Ref z
    · injection z with z; exact ne_cls L.k_Store_Builtin z
  · exact ⟨_, h.t_, nofun, nofun, nofun⟩
  · exact ⟨_, h.o_, nofun, nofun, nofun⟩
  · exact ⟨_, h.l_, nofun, nofun, nofun⟩
  · obtain ⟨th, m, t⟩ := h.xs hb
    obtain ⟨dx, fs, e⟩ := t.x
    refine ⟨_, e, fun _ _ z => ?_, fun _ _ z => ?_, nofun⟩
    · injection z with z; exact (clsT_ne L th).1 z
    · injection z with z; exact (clsT_ne L th).2 z
  · obtain ⟨th, x, t⟩ := h.ms hb
    obtain ⟨u, e, h1, h2⟩ := t.m
    exact ⟨u, e, fun _ _ => h1 _ _ _, fun _ _ => h1 _ _ _, h2⟩
/-- what is not the store's own stays -/
def Fr (a : Sa) (H H' : Hp) : Prop := ∀ b u, H b = some u → ¬ a.own b → H' b = some u
theorem Fr.vk {H H' : Hp} {a : Sa} {S : St} (L : Lib P K mg A) (h : SM P w A H a S) (f : Fr a H H') : Vk A H H' := by
  have no : ∀ b, (∃ dx fs, H b = some (.ins A.Ref dx fs)) ∨ (∃ dx fs, H b = some (.ins A.Builtin dx fs)) ∨ (∃ xs, H b = some (.tup xs)) → ¬ a.own b := fun b e ho => by
    obtain ⟨u, e1, n1, n2, n3⟩ := h.nv L ho
    rcases e with ⟨dx, fs, e⟩ | ⟨dx, fs, e⟩ | ⟨xs, e⟩
    · exact n1 _ _ (Option.some.inj (e1.symm.trans e))
    · exact n2 _ _ (Option.some.inj (e1.symm.trans e))
    · exact n3 _ (Option.some.inj (e1.symm.trans e))
  refine ⟨fun v d hv => ?_, fun q xs e => f _ _ e (no _ (.inr (.inr ⟨_, e⟩)))⟩
  cases d with
  | obj n =>
    obtain ⟨b, dx, rfl, e⟩ := hv
    exact ⟨b, dx, rfl, f _ _ e (no _ (.inl ⟨_, _, e⟩))⟩
  | bi x =>
    obtain ⟨b, dx, rfl, e⟩ := hv
    exact ⟨b, dx, rfl, f _ _ e (no _ (.inr (.inl ⟨_, _, e⟩)))⟩
  | _ => exact hv
theorem SM.imp {H H' : Hp} {a : Sa} {S : St} (h : SM P w A H a S) (k : Vk A H H') (ho : ∀ b u, a.own b → H b = some u → H' b = some u) : SM P w A H' a S := by
  obtain ⟨dx, e⟩ := h.s_
  exact ⟨⟨dx, ho _ _ (.inl rfl) e⟩, ho _ _ (.inr (.inl rfl)) h.t_, ho _ _ (.inr (.inr (.inl rfl))) h.o_, ho _ _ (.inr (.inr (.inr (.inl rfl)))) h.l_, h.lx, h.lm,
    fun i x m d e1 e2 e3 => (h.th i x m d e1 e2 e3).imp k (fun u => ho _ u (.inr (.inr (.inr (.inr (.inl (List.mem_of_getElem? e1))))))) (fun u => ho _ u (.inr (.inr (.inr (.inr (.inr (List.mem_of_getElem? e2))))))), h.nd, h.nx⟩
theorem SM.same {H H' : Hp} {a : Sa} {S : St} (h : SM P w A H a S) (s : Same H H') : SM P w A H' a S := h.imp (Same.sv s).vk fun b u _ e => s b u e
theorem SM.keep {H H' : Hp} {a : Sa} {S : St} {p : Addr} {xs : List V} (h : SM P w A H a S) (k : Keep p H H') (hp : H p = some (.lst xs)) (np : ¬ a.own p) : SM P w A H' a S := h.imp (Keep.sv k hp).vk fun b u ho e => k b u e fun z => np (z ▸ ho)
theorem nodup_get {α : Type} : ∀ {l : List α} {i j : Nat} {x : α}, l.Nodup → l[i]? = some x → l[j]? = some x → i = j
  | [], _, _, _, _, h, _ => by simp at h
  | a :: l, 0, 0, _, _, _, _ => rfl
  | a :: l, 0, j + 1, x, n, h, g => by
    simp at h g
    subst h
    exact absurd (List.mem_of_getElem? g) (List.nodup_cons.mp n).1
  | a :: l, i + 1, 0, x, n, h, g => by
    simp at h g
    subst g
    exact absurd (List.mem_of_getElem? h) (List.nodup_cons.mp n).1
  | a :: l, i + 1, j + 1, x, n, h, g => by
    simp at h g
    rw [nodup_get (List.nodup_cons.mp n).2 h g]
/-- the part m of a thing is written -/
theorem SM.setM {H : Hp} {a : Sa} {S : St} {i : Nat} {x m : Addr} {u : HO} {d : Th} (h : SM P w A H a S) (hX : a.X[i]? = some x) (hM : a.M[i]? = some m) (k : Vk A H (upd H m u)) (hd : ThAt P w A (upd H m u) x m d) :
    SM P w A (upd H m u) a { S with things := S.things.set i d } := by
  have mm := List.mem_of_getElem? hM
  have hm3 : m ≠ a.t ∧ m ≠ a.o ∧ m ≠ a.l := by
    have := h.nd
    simp only [List.nodup_cons, List.mem_cons, not_or] at this
    exact ⟨fun z => this.1.2.2 (z ▸ mm), fun z => this.2.1.2 (z ▸ mm), fun z => this.2.2.1 (z ▸ mm)⟩
  have hMn : a.M.Nodup := by
    have := h.nd
    simp only [List.nodup_cons] at this
    exact this.2.2.2
  obtain ⟨tm, xm, hmt⟩ := h.ms mm
  obtain ⟨um, hum, hni, _⟩ := hmt.m
  have nins : ∀ {b : Addr} {C dx : Addr} {fs : List (Str × V)}, H b = some (.ins C dx fs) → b ≠ m := fun e z => by
    rw [z, hum] at e
    exact hni _ _ _ (Option.some.inj e)
  obtain ⟨dx, e⟩ := h.s_
  refine ⟨⟨dx, by rw [upd_ne (nins e)]; exact e⟩, by rw [upd_ne hm3.1.symm]; exact h.t_, by rw [upd_ne hm3.2.1.symm]; exact h.o_, by rw [upd_ne hm3.2.2.symm]; exact h.l_, by rw [List.length_set]; exact h.lx, by rw [List.length_set]; exact h.lm, ?_, h.nd, h.nx⟩
  intro j x' m' d' e1 e2 e3
  by_cases hij : i = j
  · subst hij
    rw [hX] at e1
    rw [hM] at e2
    cases e1
    cases e2
    rw [List.getElem?_set] at e3
    split at e3
    · split at e3
      · cases e3; exact hd
      · cases e3
    · rename_i z; exact absurd rfl z
  · rw [List.getElem?_set_ne hij] at e3
    have t := h.th j x' m' d' e1 e2 e3
    refine t.imp k (fun u' e => ?_) (fun u' e => ?_)
    · obtain ⟨dx', fs', ex⟩ := t.x
      rw [upd_ne (nins ex)]
      exact e
    · have hne : m' ≠ m := fun z => by
        rw [z] at e2
        exact hij (nodup_get hMn hM e2)
      rw [upd_ne hne]
      exact e
/-- a thing more -/
theorem SM.push {H : Hp} {a : Sa} {S : St} {x m : Addr} {d : Th} (h : SM P w A H a S) (hd : ThAt P w A H x m d) (nx : x ∉ a.X) (nm : m ∉ a.t :: a.o :: a.l :: a.M) :
    SM P w A (upd H a.t (.lst ((a.X ++ [x]).map V.ref))) { a with X := a.X ++ [x], M := a.M ++ [m] } { S with things := S.things ++ [d] } := by
  have sv : Sv H (upd H a.t (.lst ((a.X ++ [x]).map V.ref))) := fun b u e n => by
    rw [upd_ne fun z => by rw [z, h.t_] at e; exact n _ (Option.some.inj e).symm]
    exact e
  have n3 := h.nd
  simp only [List.nodup_cons, List.mem_cons, not_or] at n3
  simp only [List.mem_cons, not_or] at nm
  have hnt : ∀ {b : Addr} {C dx : Addr} {fs : List (Str × V)}, H b = some (.ins C dx fs) → b ≠ a.t := fun e z => by
    rw [z, h.t_] at e
    cases e
  obtain ⟨dx, e⟩ := h.s_
  refine ⟨⟨dx, by rw [upd_ne (hnt e)]; exact e⟩, upd_same, by rw [upd_ne (fun z => n3.1.1 z.symm)]; exact h.o_, by rw [upd_ne (fun z => n3.1.2.1 z.symm)]; exact h.l_, by simp [h.lx], by simp [h.lm], ?_, ?_, ?_⟩
  · intro i x' m' d' e1 e2 e3
    have up : ∀ {x m : Addr} {d : Th}, ThAt P w A H x m d → m ≠ a.t → ThAt P w A (upd H a.t (.lst ((a.X ++ [x]).map V.ref))) x m d → True := fun _ _ _ => trivial
    have go : ∀ {y n : Addr} {g : Th}, ThAt P w A H y n g → n ≠ a.t → ThAt P w A (upd H a.t (.lst ((a.X ++ [x]).map V.ref))) y n g := fun {y n g} t hn => by
      obtain ⟨dy, fs, ey⟩ := t.x
      exact t.imp sv.vk (fun u e => by rw [upd_ne (hnt ey)]; exact e) (fun u e => by rw [upd_ne hn]; exact e)
    by_cases hi : i < S.things.length
    · have e1' : a.X[i]? = some x' := by
        have e1 : (a.X ++ [x])[i]? = some x' := e1
        rw [List.getElem?_append_left (by rw [h.lx]; exact hi)] at e1
        exact e1
      have e2' : a.M[i]? = some m' := by
        have e2 : (a.M ++ [m])[i]? = some m' := e2
        rw [List.getElem?_append_left (by rw [h.lm]; exact hi)] at e2
        exact e2
      have e3' : S.things[i]? = some d' := by
        have e3 : (S.things ++ [d])[i]? = some d' := e3
        rw [List.getElem?_append_left hi] at e3
        exact e3
      exact go (h.th i x' m' d' e1' e2' e3') fun z => n3.1.2.2 (z ▸ List.mem_of_getElem? e2')
    · have hl := (List.getElem?_eq_some_iff.mp e3).1
      rw [List.length_append, List.length_singleton] at hl
      have hi' : i = S.things.length := by omega
      subst hi'
      have e1 : (a.X ++ [x])[S.things.length]? = some x' := e1
      have e2 : (a.M ++ [m])[S.things.length]? = some m' := e2
      have e3 : (S.things ++ [d])[S.things.length]? = some d' := e3
      rw [← h.lx, List.getElem?_append_right (Nat.le_refl _), Nat.sub_self] at e1
      rw [← h.lm, List.getElem?_append_right (Nat.le_refl _), Nat.sub_self] at e2
      rw [List.getElem?_append_right (Nat.le_refl _), Nat.sub_self] at e3
      cases e1
      cases e2
      cases e3
      exact go hd nm.1
  · have : (a.t :: a.o :: a.l :: a.M ++ [m]).Nodup := by
      rw [List.nodup_append]
      refine ⟨h.nd, by simp, fun y hy z hz => ?_⟩
      rw [List.mem_singleton] at hz
      subst hz
      intro q
      subst q
      simp only [List.mem_cons] at hy
      rcases hy with q | q | q | q
      · exact nm.1 q
      · exact nm.2.1 q
      · exact nm.2.2.1 q
      · exact nm.2.2.2 q
    exact this
  · show (a.X ++ [x]).Nodup
    rw [List.nodup_append]
    refine ⟨h.nx, by simp, fun y hy z hz => ?_⟩
    rw [List.mem_singleton] at hz
    subst hz
    exact fun q => nx (q ▸ hy)
end
end My
namespace My
open PySem L2 SX XT XS XE
open C8 (pss_cut tCut cutS_slice pe_gc)
section
variable {P : Program} {w : World} {K : PySem.W.Frag} {mg : Str → Option Value} {base : Heap} {A : Ads}
/-! ### the classes' __init__ -/
def spHI (C : Addr) (n : Str) (K : PySem.W.Frag) : Sp := fun vs H Q _ => ∃ x dx l xs, vs = [.ref x, .ref l] ∧ H x = some (.ins C dx []) ∧ SqL K H l xs ∧ ∀ H' m, Keep x H H' → H' x = some (.ins C dx [(n, .ref m)]) → H m = none → H' m = some (.lst xs) → Q .non H'
theorem ok_Parts_init (L : Lib P K mg A) : FnOk P w K mg base CX0 1 L.Parts_init.f L.Parts_init.fd ["self", "held"] (spHI A.Parts "held" K) := by
  refine L.Parts_init.F.ok sc_Parts_init (fun vs H Q E h => ?_) (fun cdv A' outer s H vs Q E hr h => ?_)
  · obtain ⟨x, dx, l, xs, rfl, _⟩ := h
    rfl
  · obtain ⟨x, dx, l, xs, rfl, hx, hl, q⟩ := h
    refine ⟨_, (pss_one (ps_fld (pv 0) (pe_callTy call_list_of (by rfl) L.z_list (by decide +kernel) (pa_cons (pv 1) pa_nil)) rfl)), ?_⟩
    refine ⟨_, rfl, l, xs, rfl, .inl hl, fun m hm => ⟨_, rfl, x, A.Parts, dx, [], rfl, (by rw [upd_ne (ne_of_none hx hm)]; exact hx), L.c_Parts.cl, L.n_Parts_held, (by show 0 < 1000; decide), ?_⟩⟩
    have nmx : m ≠ x := (ne_of_none hx hm).symm
    exact q _ m (fun b o e n => by rw [upd_ne n, upd_ne (ne_of_none e hm)]; exact e) upd_same hm (by rw [upd_ne nmx]; exact upd_same)
theorem ok_Cursor_init (L : Lib P K mg A) : FnOk P w K mg base CX0 1 L.Cursor_init.f L.Cursor_init.fd ["self", "rest"] (spHI A.Cursor "rest" K) := by
  refine L.Cursor_init.F.ok sc_Cursor_init (fun vs H Q E h => ?_) (fun cdv A' outer s H vs Q E hr h => ?_)
  · obtain ⟨x, dx, l, xs, rfl, _⟩ := h
    rfl
  · obtain ⟨x, dx, l, xs, rfl, hx, hl, q⟩ := h
    refine ⟨_, (pss_one (ps_fld (pv 0) (pe_callTy call_list_of (by rfl) L.z_list (by decide +kernel) (pa_cons (pv 1) pa_nil)) rfl)), ?_⟩
    refine ⟨_, rfl, l, xs, rfl, .inl hl, fun m hm => ⟨_, rfl, x, A.Cursor, dx, [], rfl, (by rw [upd_ne (ne_of_none hx hm)]; exact hx), L.c_Cursor.cl, L.n_Cursor_rest, (by show 0 < 1000; decide), ?_⟩⟩
    have nmx : m ≠ x := (ne_of_none hx hm).symm
    exact q _ m (fun b o e n => by rw [upd_ne n, upd_ne (ne_of_none e hm)]; exact e) upd_same hm (by rw [upd_ne nmx]; exact upd_same)
def spKI (A : Ads) : Sp := fun vs H Q _ => ∃ x dx v1 v2, vs = [.ref x, v1, v2] ∧ H x = some (.ins A.Kin dx []) ∧ ∀ H' m, Keep x H H' → H' x = some (.ins A.Kin dx [("name", v1), ("parent", v2), ("methods", .ref m)]) → H m = none → H' m = some (.dK []) → Q .non H'
theorem ok_Kin_init (L : Lib P K mg A) : FnOk P w K mg base CX0 1 L.Kin_init.f L.Kin_init.fd ["self", "name", "parent"] (spKI A) := by
  refine L.Kin_init.F.ok sc_Kin_init (fun vs H Q E h => ?_) (fun cdv A' outer s H vs Q E hr h => ?_)
  · obtain ⟨x, dx, v1, v2, rfl, _⟩ := h
    rfl
  · obtain ⟨x, dx, v1, v2, rfl, hx, q⟩ := h
    refine ⟨_, (pss_cons (ps_fld (pv 0) (pv 1) rfl)
      (pss_cons (ps_fld (pv 0) (pv 2) rfl)
      (pss_one (ps_fld (pv 0) pe_dnewK rfl)))), ?_⟩
    refine ⟨_, rfl, _, rfl, x, A.Kin, dx, _, rfl, hx, L.c_Kin.cl, L.n_Kin_name, (by show 0 < 1000; decide), ?_⟩
    refine ⟨_, rfl, _, rfl, x, A.Kin, dx, _, rfl, upd_same, L.c_Kin.cl, L.n_Kin_parent, (by show 1 < 1000; decide), ?_⟩
    refine fun m hm => ?_
    have nmx : x ≠ m := ne_of_none upd_same hm
    refine ⟨_, rfl, x, A.Kin, dx, _, rfl, (by rw [upd_ne nmx]; exact upd_same), L.c_Kin.cl, L.n_Kin_methods, (by show 2 < 1000; decide), ?_⟩
    refine q _ m (fun b o e n => by rw [upd_ne n, upd_ne (ne_of_none (H := upd (upd H x _) x _) (by rw [upd_ne n, upd_ne n]; exact e) hm), upd_ne n, upd_ne n]; exact e) upd_same ?_ (by rw [upd_ne nmx.symm]; exact upd_same)
    rw [upd_ne nmx.symm, upd_ne nmx.symm] at hm
    exact hm
/-- a new part is made and a field of the object at a is set -/
structure Two (H H2 : Hp) (t a : Addr) (U I : HO) : Prop where
  kk : ∀ b u, H b = some u → b ≠ a → H2 b = some u
  tt : H2 t = some U
  aa : H2 a = some I
  nn : ∀ b, H2 b = none → H b = none
  na : t ≠ a
  nt : H t = none
theorem two {H : Hp} {t a : Addr} {U I I0 : HO} (nt : H t = none) (ha : H a = some I0) : Two H (upd (upd H t U) a I) t a U I := by
  have nta : t ≠ a := (ne_of_none ha nt).symm
  refine ⟨fun b u e n => by rw [upd_ne n, upd_ne (ne_of_none e nt)]; exact e, by rw [upd_ne nta]; exact upd_same, upd_same, fun b e => ?_, nta, nt⟩
  by_cases h1 : b = a
  · rw [h1, upd_same] at e; cases e
  · rw [upd_ne h1] at e
    by_cases h2 : b = t
    · rw [h2, upd_same] at e; cases e
    · rw [upd_ne h2] at e; exact e
def stO (ls : List Str) : St := ⟨[.kin "Error" .non []], [], ls, 0⟩
def spSI (P : Program) (w : World) (K : PySem.W.Frag) (A : Ads) : Sp := fun vs H Q _ => ∃ a dx l ls, vs = [.ref a, .ref l] ∧ H a = some (.ins A.Store dx []) ∧ SqL K H l (ls.map V.str) ∧ l ≠ a ∧ ∀ H' (sa : Sa), sa.s = a → Keep a H H' → SM P w A H' sa (stO ls) → (∀ b, sa.own b → b = a ∨ H b = none) → Q .non H'
theorem ok_Store_init (L : Lib P K mg A) : FnOk P w K mg base CX0 3 L.Store_init.f L.Store_init.fd ["self", "lines"] (spSI P w K A) := by
  have G_Kin_init : FnOk P w K mg base CX0 1 L.Kin_init.f L.Kin_init.fd ["self", "name", "parent"] (spKI A) := ok_Kin_init L
  refine L.Store_init.F.ok sc_Store_init (fun vs H Q E h => ?_) (fun cdv A' outer s H vs Q E hr h => ?_)
  · obtain ⟨a, dx, l, ls, rfl, _⟩ := h
    rfl
  · obtain ⟨a, dx, l, ls, rfl, ha, hl, hla, q⟩ := h
    refine ⟨_, (pss_cons (ps_fld (pv 0) (pe_lst (pa_cons (pe_make L.Kin_init.m G_Kin_init (hr.mono (by omega)) (by rfl) L.c_Kin.g L.Kin_init.b .nil pass0 (pa_cons pe_str (pa_cons pe_non pa_nil))) pa_nil)) rfl)
      (pss_cons (ps_fld (pv 0) (pe_lst pa_nil) rfl)
      (pss_cons (ps_fld (pv 0) (pe_callTy call_list_of (by rfl) L.z_list (by decide +kernel) (pa_cons (pv 1) pa_nil)) rfl)
      (pss_one (ps_fld (pv 0) pe_int rfl))))), ?_⟩
    intro y dy ny ndy nyd
    refine ⟨y, dy, _, _, rfl, upd_same, fun H1 m k1 hy nm hm => ⟨rfl, ?_⟩⟩
    have s1 : Same H H1 := Same.made ny ndy k1
    have ha1 := s1 _ _ ha
    have nya : y ≠ a := fun z => by rw [z, ha] at ny; cases ny
    have nm0 : H m = none := by
      by_cases h1 : m = y
      · rw [h1]; exact ny
      · by_cases h2 : m = dy
        · rw [h2]; exact ndy
        · rw [upd_ne h1, upd_ne h2] at nm; exact nm
    have nma : m ≠ a := fun z => by rw [z, ha] at nm0; cases nm0
    refine ⟨(by show 1 ≤ sizeLine; decide), fun t nt => ?_⟩
    refine ⟨_, rfl, a, A.Store, dx, [], rfl, (by rw [upd_ne (ne_of_none ha1 nt)]; exact ha1), L.c_Store.cl, L.n_Store_things, (by show 0 < 1000; decide), ?_⟩
    have T1 := two (U := .lst [.ref y]) (I := .ins A.Store dx (putF "things" (V.ref t) [])) nt ha1
    generalize upd (upd H1 t (.lst [V.ref y])) a (.ins A.Store dx (putF "things" (V.ref t) [])) = H2 at T1 ⊢
    refine ⟨Nat.zero_le _, fun o no => ?_⟩
    refine ⟨_, rfl, a, A.Store, dx, _, rfl, (by rw [upd_ne (ne_of_none T1.aa no)]; exact T1.aa), L.c_Store.cl, L.n_Store_output, (by show 1 < 1000; decide), ?_⟩
    have T2 := two (U := .lst []) (I := .ins A.Store dx (putF "output" (V.ref o) (putF "things" (V.ref t) []))) no T1.aa
    generalize upd (upd H2 o (.lst [])) a (.ins A.Store dx (putF "output" (V.ref o) (putF "things" (V.ref t) []))) = H3 at T2 ⊢
    have k13 : ∀ b u, H b = some u → b ≠ a → H3 b = some u := fun b u e n => T2.kk _ _ (T1.kk _ _ (s1 _ _ e) n) n
    have hl3 : SqL K H3 l (ls.map V.str) := by
      rcases hl with (hl | ⟨ob, hl⟩) | hl
      · exact .inl (.inl (k13 _ _ hl hla))
      · exact .inl (.inr ⟨ob, k13 _ _ hl hla⟩)
      · exact .inr hl
    refine ⟨_, rfl, l, _, rfl, .inl hl3, fun lm nlm => ?_⟩
    refine ⟨_, rfl, a, A.Store, dx, _, rfl, (by rw [upd_ne (ne_of_none T2.aa nlm)]; exact T2.aa), L.c_Store.cl, L.n_Store_lines, (by show 2 < 1000; decide), ?_⟩
    refine ⟨_, rfl, a, A.Store, dx, _, rfl, upd_same, L.c_Store.cl, L.n_Store_taken, (by show 3 < 1000; decide), ?_⟩
    have T3 := two (U := .lst (ls.map V.str)) (I := .ins A.Store dx (putF "lines" (V.ref lm) (putF "output" (V.ref o) (putF "things" (V.ref t) [])))) nlm T2.aa
    generalize upd (upd H3 lm (.lst (ls.map V.str))) a (.ins A.Store dx (putF "lines" (V.ref lm) (putF "output" (V.ref o) (putF "things" (V.ref t) [])))) = H4 at T3 ⊢
    have kF : ∀ {b : Addr} {u : HO}, H4 b = some u → b ≠ a → upd H4 a (.ins A.Store dx (putF "taken" (V.int 0) (putF "lines" (V.ref lm) (putF "output" (V.ref o) (putF "things" (V.ref t) []))))) b = some u := fun e n => by rw [upd_ne n]; exact e
    have ht4 := T3.kk _ _ (T2.kk _ _ T1.tt T1.na) T1.na
    have ho4 := T3.kk _ _ T2.tt T2.na
    have hy4 := T3.kk _ _ (T2.kk _ _ (T1.kk _ _ hy nya) nya) nya
    have hm4 := T3.kk _ _ (T2.kk _ _ (T1.kk _ _ hm nma) nma) nma
    refine q _ ⟨a, t, o, lm, [y], [m]⟩ rfl (fun b u e n => kF (T3.kk _ _ (k13 _ _ e n) n) n) ⟨⟨dx, upd_same⟩, kF ht4 T1.na, kF ho4 T2.na, kF T3.tt T3.na, rfl, rfl, ?_, ?_, by simp⟩ ?_
    · intro i x' m' d' e1 e2 e3
      match i, e1, e2, e3 with
      | 0, e1, e2, e3 =>
        cases e1
        cases e2
        cases e3
        exact ⟨_, .non, [], kF hy4 nya, rfl, kF hm4 nma, trivial⟩
      | i + 1, e1, e2, e3 => simp at e1
    · have hm1 := hm
      have n1 : t ≠ m := (ne_of_none hm1 nt).symm
      have n2 : t ≠ o := ne_of_none T1.tt no
      have n3 : t ≠ lm := ne_of_none (T2.kk _ _ T1.tt T1.na) nlm
      have n4 : o ≠ m := (ne_of_none (T1.kk _ _ hm1 nma) no).symm
      have n5 : o ≠ lm := ne_of_none T2.tt nlm
      have n6 : lm ≠ m := (ne_of_none (T2.kk _ _ (T1.kk _ _ hm1 nma) nma) nlm).symm
      simp [n1, n2, n3, n4, n5, n6]
    · intro b hb
      rcases hb with rfl | rfl | rfl | rfl | hb | hb
      · exact .inl rfl
      · exact .inr (s1.free nt)
      · exact .inr (s1.free (T1.nn _ no))
      · exact .inr (s1.free (T1.nn _ (T2.nn _ nlm)))
      · rw [List.mem_singleton] at hb
        subst hb
        exact .inr ny
      · rw [List.mem_singleton] at hb
        subst hb
        exact .inr nm0
/-! ### make, at -/
def spMake (P : Program) (w : World) (A : Ads) : Sp := fun vs H Q _ => ∃ (a : Sa) (S : St) (x m : Addr) (d : Th), vs = [.ref a.s, .ref x] ∧ SM P w A H a S ∧ ThAt P w A H x m d ∧ x ∉ a.X ∧ m ∉ a.t :: a.o :: a.l :: a.M ∧ S.things.length < 100000 ∧
  ∀ H' r, Keep a.t H H' → SM P w A H' { a with X := a.X ++ [x], M := a.M ++ [m] } { S with things := S.things ++ [d] } → H r = none → Has A H' (.ref r) (.obj S.things.length) → Q (.ref r) H'
theorem ok_Store_make (L : Lib P K mg A) : FnOk P w K mg base CX0 3 L.Store_make.f L.Store_make.fd ["self", "thing"] (spMake P w A) := by
  have G_Ref_init : FnOk P w K mg base CX0 1 L.Ref_init.f L.Ref_init.fd ["self", "number"] (spI1 A.Ref "number") := ok_Ref_init L
  refine L.Store_make.F.ok sc_Store_make (fun vs H Q E h => ?_) (fun cdv A' outer s H vs Q E hr h => ?_)
  · obtain ⟨a, S, x, m, d, rfl, _⟩ := h
    rfl
  · obtain ⟨a, S, x, m, d, rfl, hS, hd, nx, nm, hl, q⟩ := h
    refine ⟨_, (pss_cons (ps_expr (pe_bm PySem.F.plainAttrs_list PySem.F.slot_list_append PySem.F.type_list_append mt_append (pe_fld (pv 0) rfl) (pa_cons (pv 1) pa_nil)))
      (pss_one (ps_ret (pe_make L.Ref_init.m G_Ref_init (hr.mono (by omega)) (by rfl) L.c_Ref.g L.Ref_init.b .nil pass0 (pa_cons (pe_op op_sub (pe_callB call_len_seq (by rfl) L.z_len PySem.boot_len (pa_cons (pe_fld (pv 0) rfl) pa_nil)) pe_int) pa_nil))))), ?_⟩
    obtain ⟨dx, h1⟩ := hS.s_
    have hlx := hS.lx
    have nst : a.s ≠ a.t := fun z => by rw [z, hS.t_] at h1; cases h1
    refine ⟨_, rfl, a.s, A.Store, dx, _, _, rfl, h1, L.c_Store.cl, L.n_Store_things, st_things _ _ _ _, .inl ⟨rfl, _, SqL.of hS.t_⟩, _, rfl, a.t, _, _, rfl, rfl, hS.t_, Nat.lt_of_le_of_lt (m := 100000) (by rw [List.length_map]; omega) (by decide), ?_⟩
    have e : a.X.map V.ref ++ [V.ref x] = (a.X ++ [x]).map V.ref := by rw [List.map_append]; rfl
    rw [e]
    have P1 := hS.push hd nx nm
    have K1 : Keep a.t H (upd H a.t (.lst ((a.X ++ [x]).map V.ref))) := keep_upd
    refine ⟨_, rfl, a.s, A.Store, dx, _, _, rfl, K1 _ _ h1 nst, L.c_Store.cl, L.n_Store_things, st_things _ _ _ _, a.t, _, rfl, .inl (SqL.of upd_same), _, _, rfl, rfl, ?_⟩
    intro r dr nr ndr ndrr
    refine ⟨r, dr, _, rfl, upd_same, fun H1 k1 hR1 => ⟨rfl, ?_⟩⟩
    have s1 := Same.made nr ndr k1
    have nrt : r ≠ a.t := fun z => by rw [z, upd_same] at nr; cases nr
    refine q _ r (fun b ob e n => s1 _ _ (K1 _ _ e n)) (P1.same s1) (by rw [upd_ne nrt] at nr; exact nr) ⟨r, dr, rfl, ?_⟩
    have : ((((a.X ++ [x]).map V.ref).length : Nat) : Int) - 1 = (S.things.length : Nat) := by
      rw [List.length_map, List.length_append, List.length_singleton]
      omega
    show H1 r = some (.ins A.Ref dr [("number", .int (S.things.length : Nat))])
    rw [← this]
    exact hR1
def spAt (P : Program) (w : World) (A : Ads) : Sp := fun vs H Q _ => ∃ (a : Sa) (S : St) (r x : Addr) (i : Nat), vs = [.ref a.s, .ref r] ∧ SM P w A H a S ∧ Has A H (.ref r) (.obj i) ∧ a.X[i]? = some x ∧ Q (.ref x) H
theorem ok_Store_at (L : Lib P K mg A) : FnOk P w K mg base CX0 1 L.Store_at.f L.Store_at.fd ["self", "ref"] (spAt P w A) := by
  refine L.Store_at.F.ok sc_Store_at (fun vs H Q E h => ?_) (fun cdv A' outer s H vs Q E hr h => ?_)
  · obtain ⟨a, S, r, x, i, rfl, _⟩ := h
    rfl
  · obtain ⟨a, S, r, x, i, rfl, hS, ⟨b, dr, e, hR⟩, hi, q⟩ := h
    cases e
    refine ⟨_, (pss_one (ps_ret (pe_ix ix_list (pe_fld (pv 0) rfl) (pe_fld (pv 1) rfl) (fun _ _ => rfl)))), ?_⟩
    obtain ⟨dx, h1⟩ := hS.s_
    exact ⟨_, rfl, a.s, A.Store, dx, _, _, rfl, h1, L.c_Store.cl, L.n_Store_things, st_things _ _ _ _, _, rfl, r, A.Ref, dr, _, _, rfl, hR, L.c_Ref.cl, L.n_Ref_number, lk_hit, a.t, _, _, .ref x, rfl, rfl, SqL.of hS.t_, atI_nat (by rw [List.getElem?_map, hi]; rfl), q⟩
/-! ### kinds -/
def tP : Th → Bool
  | .parts _ => true
  | _ => false
def tT : Th → Bool
  | .table _ => true
  | _ => false
def tI : Th → Bool
  | .inst _ _ => true
  | _ => false
def tK : Th → Bool
  | .kin _ _ _ => true
  | _ => false
theorem kit_P (L : Lib P K mg A) (d : Th) : PySem.W.kitOne K (.ref (clsT A d)) (.ref A.Parts) = some (tP d) := by
  cases d with
  | parts ds => exact kit_self _
  | cursor ds => exact L.k_Cursor_Parts
  | table es => exact L.k_Table_Parts
  | inst o ns => exact L.k_Instance_Parts
  | kin nm par ms => exact L.k_Kin_Parts
theorem kit_T (L : Lib P K mg A) (d : Th) : PySem.W.kitOne K (.ref (clsT A d)) (.ref A.Table) = some (tT d) := by
  cases d with
  | parts ds => exact L.k_Parts_Table
  | cursor ds => exact L.k_Cursor_Table
  | table es => exact kit_self _
  | inst o ns => exact L.k_Instance_Table
  | kin nm par ms => exact L.k_Kin_Table
theorem kit_I (L : Lib P K mg A) (d : Th) : PySem.W.kitOne K (.ref (clsT A d)) (.ref A.Instance) = some (tI d) := by
  cases d with
  | parts ds => exact L.k_Parts_Instance
  | cursor ds => exact L.k_Cursor_Instance
  | table es => exact L.k_Table_Instance
  | inst o ns => exact kit_self _
  | kin nm par ms => exact L.k_Kin_Instance
theorem kit_K (L : Lib P K mg A) (d : Th) : PySem.W.kitOne K (.ref (clsT A d)) (.ref A.Kin) = some (tK d) := by
  cases d with
  | parts ds => exact L.k_Parts_Kin
  | cursor ds => exact L.k_Cursor_Kin
  | table es => exact L.k_Table_Kin
  | inst o ns => exact L.k_Instance_Kin
  | kin nm par ms => exact kit_self _
theorem th_ty (L : Lib P K mg A) {H : Hp} {x m : Addr} {d : Th} (h : ThAt P w A H x m d) : TyX K H (.ref x) (.ref (clsT A d)) := by
  obtain ⟨dx, fs, e⟩ := h.x
  cases d with
  | parts ds => exact L.c_Parts.ty e
  | cursor ds => exact L.c_Cursor.ty e
  | table es => exact L.c_Table.ty e
  | inst o ns => exact L.c_Instance.ty e
  | kin nm par ms => exact L.c_Kin.ty e
def kindT : Th → Str
  | .parts _ => "list"
  | .table _ => "map"
  | .inst _ _ => "instance"
  | .kin _ _ _ => "class"
  | .cursor _ => "function"
def spKT (P : Program) (w : World) (A : Ads) : Sp := fun vs H Q _ => ∃ x m d, vs = [.ref x] ∧ ThAt P w A H x m d ∧ Q (.str (kindT d)) H
theorem ok_kind_of_thing (L : Lib P K mg A) : FnOk P w K mg base CX0 1 L.kind_of_thing.f L.kind_of_thing.fd ["thing"] (spKT P w A) := by
  refine L.kind_of_thing.F.ok sc_kind_of_thing (fun vs H Q E h => ?_) (fun cdv A' outer s H vs Q E hr h => ?_)
  · obtain ⟨x, m, d, rfl, _⟩ := h
    rfl
  · obtain ⟨x, m, d, rfl, hd, q⟩ := h
    refine ⟨_, (pss_cons (ps_if (pt_val (pe_callB call_isi (by rfl) L.z_isinstance (by decide +kernel) (pa_cons (pv 0) (pa_cons (pe_gc (v := .ref A.Parts) (by rfl) ⟨_, L.c_Parts.g, rfl⟩) pa_nil))))
        (pss_one (ps_ret pe_str))
        pss_nil)
      (pss_cons (ps_if (pt_val (pe_callB call_isi (by rfl) L.z_isinstance (by decide +kernel) (pa_cons (pv 0) (pa_cons (pe_gc (v := .ref A.Table) (by rfl) ⟨_, L.c_Table.g, rfl⟩) pa_nil))))
        (pss_one (ps_ret pe_str))
        pss_nil)
      (pss_cons (ps_if (pt_val (pe_callB call_isi (by rfl) L.z_isinstance (by decide +kernel) (pa_cons (pv 0) (pa_cons (pe_gc (v := .ref A.Instance) (by rfl) ⟨_, L.c_Instance.g, rfl⟩) pa_nil))))
        (pss_one (ps_ret pe_str))
        pss_nil)
      (pss_cons (ps_if (pt_val (pe_callB call_isi (by rfl) L.z_isinstance (by decide +kernel) (pa_cons (pv 0) (pa_cons (pe_gc (v := .ref A.Kin) (by rfl) ⟨_, L.c_Kin.g, rfl⟩) pa_nil))))
        (pss_one (ps_ret pe_str))
        pss_nil)
      (pss_one (ps_ret pe_str)))))), ?_⟩
    have ty := th_ty L hd
    refine ⟨_, rfl, _, .ref A.Parts, _, .ref A.Parts, _, rfl, .own _, ty, kit_P L d, _, rfl, ite_or (fun e => ?_) fun e1 => ?_⟩
    · cases d <;> first | exact q | (cases e; done)
    refine ⟨_, rfl, _, .ref A.Table, _, .ref A.Table, _, rfl, .own _, ty, kit_T L d, _, rfl, ite_or (fun e => ?_) fun e2 => ?_⟩
    · cases d <;> first | exact q | (cases e; done)
    refine ⟨_, rfl, _, .ref A.Instance, _, .ref A.Instance, _, rfl, .own _, ty, kit_I L d, _, rfl, ite_or (fun e => ?_) fun e3 => ?_⟩
    · cases d <;> first | exact q | (cases e; done)
    refine ⟨_, rfl, _, .ref A.Kin, _, .ref A.Kin, _, rfl, .own _, ty, kit_K L d, _, rfl, ite_or (fun e => ?_) fun e4 => ?_⟩
    · cases d <;> first | exact q | (cases e; done)
    cases d <;> first | exact q | (cases e1; done) | (cases e2; done) | (cases e3; done) | (cases e4; done)
def kindD (S : St) : Dv → Str
  | .non => "null"
  | .bl _ => "boolean"
  | .int _ => "integer"
  | .str _ => "text"
  | .bi _ => "function"
  | .obj n => match S.things[n]? with
    | some d => kindT d
    | none => "function"
def okV (S : St) : Dv → Prop
  | .obj n => n < S.things.length
  | _ => True
def spKO (P : Program) (w : World) (A : Ads) : Sp := fun vs H Q _ => ∃ (a : Sa) (S : St) (v : V) (d : Dv), vs = [.ref a.s, v] ∧ SM P w A H a S ∧ Has A H v d ∧ okV S d ∧ Q (.str (kindD S d)) H
theorem ok_kind_of (L : Lib P K mg A) : FnOk P w K mg base CX0 2 L.kind_of.f L.kind_of.fd ["store", "value"] (spKO P w A) := by
  have G_kind_of_thing : FnOk P w K mg base CX0 1 L.kind_of_thing.f L.kind_of_thing.fd ["thing"] (spKT P w A) := ok_kind_of_thing L
  have G_Store_at : FnOk P w K mg base CX0 1 L.Store_at.f L.Store_at.fd ["self", "ref"] (spAt P w A) := ok_Store_at L
  refine L.kind_of.F.ok sc_kind_of (fun vs H Q E h => ?_) (fun cdv A' outer s H vs Q E hr h => ?_)
  · obtain ⟨a, S, v, d, rfl, _⟩ := h
    rfl
  · obtain ⟨a, S, v, d, rfl, hS, hv, ho, q⟩ := h
    refine ⟨_, (pss_cons (ps_if (pt_cmpR op_isN (pv 1) pe_non (nomark _))
        (pss_one (ps_ret pe_str))
        pss_nil)
      (pss_cons (ps_if (pt_val (pe_callB call_isi (by rfl) L.z_isinstance (by decide +kernel) (pa_cons (pv 1) (pa_cons (pe_bltn (v := .ty "bool") (by rfl) L.z_bool (by decide +kernel) rfl) pa_nil))))
        (pss_one (ps_ret pe_str))
        pss_nil)
      (pss_cons (ps_if (pt_val (pe_callB call_isi (by rfl) L.z_isinstance (by decide +kernel) (pa_cons (pv 1) (pa_cons (pe_bltn (v := .ty "int") (by rfl) L.z_int (by decide +kernel) rfl) pa_nil))))
        (pss_one (ps_ret pe_str))
        pss_nil)
      (pss_cons (ps_if (pt_val (pe_callB call_isi (by rfl) L.z_isinstance (by decide +kernel) (pa_cons (pv 1) (pa_cons (pe_bltn (v := .ty "str") (by rfl) L.z_str (by decide +kernel) rfl) pa_nil))))
        (pss_one (ps_ret pe_str))
        pss_nil)
      (pss_cons (ps_if (pt_val (pe_callB call_isi (by rfl) L.z_isinstance (by decide +kernel) (pa_cons (pv 1) (pa_cons (pe_gc (v := .ref A.Ref) (by rfl) ⟨_, L.c_Ref.g, rfl⟩) pa_nil))))
        (pss_one (ps_ret (pe_call G_kind_of_thing (hr.mono (by omega)) (by rfl) L.kind_of_thing.g L.kind_of_thing.F.kp L.kind_of_thing.b .nil pass0 (pa_cons (pe_meth (pv 0) L.c_Store.cl L.Store_at.m G_Store_at (hr.mono (by omega)) L.Store_at.b .nil pass0 (pa_cons (pv 1) pa_nil)) pa_nil))))
        pss_nil)
      (pss_one (ps_ret pe_str))))))), ?_⟩
    have ty := has_ty L hv
    have isn : decide (v = V.non) = decide (d = .non) := by
      cases d with
      | non => cases hv; rfl
      | obj n => obtain ⟨b, dx, rfl, _⟩ := hv; rfl
      | bi n => obtain ⟨b, dx, rfl, _⟩ := hv; rfl
      | _ => cases hv; rfl
    refine ⟨_, rfl, rfl, _, rfl, ite_or (fun e => ?_) fun e0 => ?_⟩
    · rw [isn] at e
      have : d = .non := of_decide_eq_true e
      subst this
      exact q
    rw [isn] at e0
    refine ⟨_, rfl, v, .ty "bool", _, _, _, rfl, .ty _, ty, kit_bool L d, _, rfl, ite_or (fun e => ?_) fun e1 => ?_⟩
    · cases d <;> first | exact q | (cases e; done)
    refine ⟨_, rfl, v, .ty "int", _, _, _, rfl, .ty _, ty, kit_int L d, _, rfl, ite_or (fun e => ?_) fun e2 => ?_⟩
    · cases d <;> first | exact q | (cases e; done) | (cases e1; done)
    refine ⟨_, rfl, v, .ty "str", _, _, _, rfl, .ty _, ty, kit_str L d, _, rfl, ite_or (fun e => ?_) fun e3 => ?_⟩
    · cases d <;> first | exact q | (cases e; done)
    refine ⟨_, rfl, v, .ref A.Ref, _, .ref A.Ref, _, rfl, .own _, ty, kit_R L d, _, rfl, ite_or (fun e => ?_) fun e4 => ?_⟩
    · cases d with
      | obj n =>
        obtain ⟨th, hth⟩ : ∃ th, S.things[n]? = some th := ⟨_, List.getElem?_eq_getElem ho⟩
        obtain ⟨x, m, hx, hm, ht⟩ := hS.get hth
        obtain ⟨dx, h1⟩ := hS.s_
        have q' : Q (.str (kindT th)) H := by
          have : kindD S (.obj n) = kindT th := by
            show (match S.things[n]? with
              | some d => kindT d
              | none => "function") = kindT th
            rw [hth]
          rw [← this]
          exact q
        obtain ⟨b, db, rfl, hb⟩ := hv
        exact ⟨_, rfl, a.s, dx, _, rfl, h1, st_no _ _ _ _ (by decide +kernel) (by decide +kernel) (by decide +kernel) (by decide +kernel), _, rfl, a, S, b, x, n, rfl, hS, ⟨b, db, rfl, hb⟩, hx, x, m, th, rfl, ht, q'⟩
      | _ => cases e
    cases d <;> first | exact q | (cases e0; done) | (cases e1; done) | (cases e2; done) | (cases e3; done) | (cases e4; done)
end
end My
namespace My
open PySem L2 SX XT XS XE
open C8 (pss_cut tCut cutS_slice pe_gc)
def Err (E : XK) (cE : Addr) (H : Hp) (k m : Str) : Prop := ∀ d, H d = none → E (.ref cE) (some d) (upd H d (.xd [("message", .str m), ("kind", .str k)]))
/-! ### entries -/
def valE (es : List (Dv × Dv)) (k : Dv) : Option Dv := (es.find? fun p => decide (p.1 = k)).map (·.2)
def putE (es : List (Dv × Dv)) (k v : Dv) : List (Dv × Dv) := if (valE es k).isSome = true then es.map (fun p => if p.1 = k then (p.1, v) else p) else es ++ [(k, v)]
theorem Ents.len {A : Ads} {H : Hp} : ∀ {es : List Ent} {ps : List (Dv × Dv)}, Ents A H es ps → es.length = ps.length
  | [], [], _ => rfl
  | _ :: _, _ :: _, h => congrArg (· + 1) (Ents.len h.2)
  | [], _ :: _, h => h.elim
  | _ :: _, [], h => h.elim
theorem Ents.val {A : Ads} {H : Hp} {k : Dv} (hk : keyD k = true) : ∀ {es : List Ent} {ps : List (Dv × Dv)}, Ents A H es ps → (valT es (toV k)).isSome = (valE ps k).isSome
  | [], [], _ => rfl
  | e :: es, p :: ps, h => by
    have ih := Ents.val hk h.2
    unfold valT valE at ih ⊢
    rw [List.find?_cons, List.find?_cons]
    have : decide (e.1 = toV k) = decide (p.1 = k) := by
      rw [decide_eq_decide, h.1.2.1]
      exact ⟨fun z => toV_inj h.1.1 hk z, fun z => by rw [z]⟩
    rw [this]
    by_cases c : p.1 = k
    · rw [decide_eq_true c]; rfl
    · rw [decide_eq_false c]; exact ih
  | [], _ :: _, h => h.elim
  | _ :: _, [], h => h.elim
theorem Ents.app {A : Ads} {H : Hp} : ∀ {es fs : List Ent} {ps qs : List (Dv × Dv)}, Ents A H es ps → Ents A H fs qs → Ents A H (es ++ fs) (ps ++ qs)
  | [], _, [], _, _, g => g
  | _ :: _, _, _ :: _, _, h, g => ⟨h.1, Ents.app h.2 g⟩
  | [], _, _ :: _, _, h, _ => h.elim
  | _ :: _, _, [], _, h, _ => h.elim
theorem Ents.put {A : Ads} {H : Hp} {k v : Dv} {b q : Addr} {vv : V} (hk : keyD k = true) (hq : H q = some (.tup [toV k, vv])) (hv : Has A H vv v) {es : List Ent} {ps : List (Dv × Dv)} (h : Ents A H es ps) : Ents A H (putT es (toV k) b (.ref q)) (putE ps k v) := by
  unfold putT putE
  rw [h.val hk]
  split
  · have : ∀ {es : List Ent} {ps : List (Dv × Dv)}, Ents A H es ps → Ents A H (es.map fun e => if e.1 = toV k then (e.1, e.2.1, .ref q) else e) (ps.map fun p => if p.1 = k then (p.1, v) else p) := by
      intro es
      induction es with
      | nil =>
        intro ps h
        cases ps with
        | nil => trivial
        | cons p ps => exact h.elim
      | cons e es ih =>
        intro ps h
        cases ps with
        | nil => exact h.elim
        | cons p ps =>
          obtain ⟨⟨k1, k2, q1, v1, k3, k4, k5⟩, r⟩ := h
          refine ⟨?_, ih r⟩
          by_cases c : p.1 = k
          · have c2 : e.1 = toV k := by rw [k2, c]
            simp only [c2, c, if_true]
            exact ⟨by rw [← c]; exact k1, trivial, q, vv, rfl, hq, hv⟩
          · have c2 : ¬ e.1 = toV k := fun z => c (toV_inj k1 hk (k2.symm.trans z))
            simp only [c2, c, if_false]
            exact ⟨k1, k2, q1, v1, k3, k4, k5⟩
    exact this h
  · exact h.app ⟨⟨hk, rfl, q, vv, rfl, hq, hv⟩, trivial⟩
theorem valE_some {es : List (Dv × Dv)} {k : Dv} : (valE es k).isSome = true ↔ k ∈ es.map Prod.fst := by
  unfold valE
  rw [Option.isSome_map, List.find?_isSome]
  constructor
  · rintro ⟨p, hp, e⟩
    exact List.mem_map.mpr ⟨p, hp, of_decide_eq_true e⟩
  · intro h
    obtain ⟨p, hp, e⟩ := List.mem_map.mp h
    exact ⟨p, hp, decide_eq_true e⟩
theorem putE_keys {es : List (Dv × Dv)} {k v : Dv} : (putE es k v).map Prod.fst = if k ∈ es.map Prod.fst then es.map Prod.fst else es.map Prod.fst ++ [k] := by
  unfold putE
  by_cases h : (valE es k).isSome = true
  · rw [if_pos h, if_pos (valE_some.mp h), List.map_map]
    refine List.map_congr_left fun p _ => ?_
    show (if p.1 = k then (p.1, v) else p).1 = p.1
    split <;> rfl
  · rw [if_neg h, if_neg fun z => h (valE_some.mpr z), List.map_append]
    rfl
theorem putE_nd {es : List (Dv × Dv)} {k v : Dv} (h : (es.map Prod.fst).Nodup) : ((putE es k v).map Prod.fst).Nodup := by
  rw [putE_keys]
  split
  · exact h
  · rename_i c
    rw [List.nodup_append]
    refine ⟨h, by simp, fun x hx y hy z => ?_⟩
    rw [List.mem_singleton] at hy
    rw [z, hy] at hx
    exact c hx
theorem putE_len {es : List (Dv × Dv)} {k v : Dv} : (putE es k v).length ≤ es.length + 1 ∧ ((valE es k).isSome = true → (putE es k v).length = es.length) := by
  unfold putE
  split
  · simp
  · rename_i c
    exact ⟨by simp, fun z => absurd z c⟩
theorem putE_new {es : List (Dv × Dv)} {k v : Dv} (h : k ∉ es.map Prod.fst) : putE es k v = es ++ [(k, v)] := by
  unfold putE
  rw [if_neg fun z => h (valE_some.mp z)]
/-! ### how a store goes on -/
structure Ev (a a' : Sa) (H H' : Hp) : Prop where
  fr : Fr a H H'
  s : a'.s = a.s
  gw : ∀ b, a'.own b → a.own b ∨ H b = none
theorem Ev.trans {a b c : Sa} {H H1 H2 : Hp} (x : Ev a b H H1) (y : Ev b c H1 H2) : Ev a c H H2 := by
  refine ⟨fun d u e n => y.fr _ _ (x.fr _ _ e n) fun z => ?_, y.s.trans x.s, fun d z => ?_⟩
  · rcases x.gw d z with q | q
    · exact n q
    · rw [q] at e; cases e
  · rcases y.gw d z with q | q
    · exact x.gw d q
    · cases e : H d with
      | none => exact .inr rfl
      | some u =>
        by_cases o : a.own d
        · exact .inl o
        · rw [x.fr _ _ e o] at q; cases q
theorem Ev.same {a : Sa} {H H' : Hp} (s : Same H H') : Ev a a H H' := ⟨fun b u e _ => s b u e, rfl, fun _ z => .inl z⟩
theorem Ev.rfl' {a : Sa} {H : Hp} : Ev a a H H := Ev.same fun _ _ e => e
theorem Ev.nin {a a' : Sa} {H H' : Hp} (x : Ev a a' H H') {p : Addr} {u : HO} (e : H p = some u) (n : ¬ a.own p) : ¬ a'.own p := fun z => by
  rcases x.gw p z with q | q
  · exact n q
  · rw [q] at e; cases e
theorem op_notTrue {X : Cx} : OpR X (compareOp .IsNot) (fun x y H Q => x = .bl true ∧ y = .bl true ∧ Q (.bl false) H) := by
  intro pins s σ H x y v u Q I rx ry h
  obtain ⟨rfl, rfl, q⟩ := h
  cases (show u = Value.bool true from ry)
  cases (show v = Value.bool true from rx)
  exact wpAny_isNot_self rfl ⟨.bl false, H, I, rfl, q⟩
section
variable {P : Program} {w : World} {K : PySem.W.Frag} {mg : Str → Option Value} {base : Heap} {A : Ads}
/-! ### checks that hold -/
def spCS : Sp := fun vs H Q _ => ∃ i : Int, vs = [.int i] ∧ i ≤ 1000 ∧ Q .non H
theorem ok_check_size (L : Lib P K mg A) : FnOk P w K mg base CX0 1 L.check_size.f L.check_size.fd ["size"] spCS := by
  refine L.check_size.F.ok sc_check_size (fun vs H Q E h => ?_) (fun cdv A' outer s H vs Q E hr h => ?_)
  · obtain ⟨i, rfl, _⟩ := h
    rfl
  · obtain ⟨i, rfl, hi, q⟩ := h
    refine ⟨_, (pss_one (ps_if (pt_cmpR op_gt (pv 0) (pe_glob (v := .int 1000) (by rfl) L.v_MOST_HELD.choose_spec ⟨_, rfl⟩) (nomark _))
        (pss_one ps_never)
        pss_nil)), ?_⟩
    exact ⟨_, rfl, _, _, rfl, rfl, _, rfl, ifF (decide_eq_false (by omega)) q⟩
theorem kit_is2 (L : Lib P K mg A) (d : Dv) : PySem.W.kitAny K (tyD A d) [.type "int", .type "str"] = some (dI d || dS d) := by
  unfold PySem.W.kitAny
  rw [kit_int L d]
  cases h : dI d with
  | true => rfl
  | false =>
    unfold PySem.W.kitAny
    rw [kit_str L d]
    cases dS d <;> rfl
def spIK (A : Ads) : Sp := fun vs H Q _ => ∃ v d, vs = [v] ∧ Has A H v d ∧ ∀ H', Same H H' → Q (.bl (keyD d)) H'
theorem ok_is_key (L : Lib P K mg A) : FnOk P w K mg base CX0 1 L.is_key.f L.is_key.fd ["value"] (spIK A) := by
  refine L.is_key.F.ok sc_is_key (fun vs H Q E h => ?_) (fun cdv A' outer s H vs Q E hr h => ?_)
  · obtain ⟨v, d, rfl, _⟩ := h
    rfl
  · obtain ⟨v, d, rfl, hv, q⟩ := h
    refine ⟨_, (pss_one (ps_ret (pe_or (pe_cmpR op_isN (pv 0) pe_non (nomark _)) (pe_one (pe_callB call_isiT (by rfl) L.z_isinstance (by decide +kernel) (pa_cons (pv 0) (pa_cons (pe_tup (pa_cons (pe_bltn (v := .ty "int") (by rfl) L.z_int (by decide +kernel) rfl) (pa_cons (pe_bltn (v := .ty "str") (by rfl) L.z_str (by decide +kernel) rfl) pa_nil))) pa_nil))))))), ?_⟩
    refine ⟨_, rfl, rfl, _, rfl, ite_or (fun e => ?_) fun e0 => ?_⟩
    · have : d = .non := by
        have e := of_decide_eq_true e
        subst e
        cases d with
        | non => rfl
        | obj n => obtain ⟨b, dx, z, _⟩ := hv; cases z
        | bi n => obtain ⟨b, dx, z, _⟩ := hv; cases z
        | _ => cases hv
      subst this
      exact q H fun _ _ e => e
    · refine ⟨_, rfl, (by show 2 ≤ sizeLine; decide), fun p np => ?_⟩
      have s1 := same_upd (o := .tup [.ty "int", .ty "str"]) np
      refine ⟨v, p, [.ty "int", .ty "str"], tyD A d, [.type "int", .type "str"], keyD d, rfl, upd_same, .cons (.ty _) (.cons (.ty _) .nil), has_ty L (hv.sv (Same.sv s1)), ?_, q _ s1⟩
      refine (kit_is2 L d).trans ?_
      cases d with
      | non => cases hv; cases e0
      | _ => rfl
def spCK (A : Ads) : Sp := fun vs H Q _ => ∃ v d, vs = [v] ∧ Has A H v d ∧ keyD d = true ∧ ∀ H', Same H H' → Q .non H'
theorem ok_check_key (L : Lib P K mg A) : FnOk P w K mg base CX0 2 L.check_key.f L.check_key.fd ["key"] (spCK A) := by
  have G_is_key : FnOk P w K mg base CX0 1 L.is_key.f L.is_key.fd ["value"] (spIK A) := ok_is_key L
  refine L.check_key.F.ok sc_check_key (fun vs H Q E h => ?_) (fun cdv A' outer s H vs Q E hr h => ?_)
  · obtain ⟨v, d, rfl, _⟩ := h
    rfl
  · obtain ⟨v, d, rfl, hv, hk, q⟩ := h
    refine ⟨_, (pss_one (ps_if (pt_not (pt_val (pe_call G_is_key (hr.mono (by omega)) (by rfl) L.is_key.g L.is_key.F.kp L.is_key.b .nil pass0 (pa_cons (pv 0) pa_nil))))
        (pss_one ps_never)
        pss_nil)), ?_⟩
    exact ⟨_, rfl, v, d, rfl, hv, fun H' s1 => ⟨_, rfl, by rw [hk]; exact iteF (q H' s1)⟩⟩
def spPE (P : Program) (w : World) (A : Ads) : Sp := fun vs H Q _ => ∃ x m kv vv k d ents es, vs = [.ref x, kv, vv] ∧ TblAt P w A H x m ents ∧ Ents A H ents es ∧ Has A H kv k ∧ keyD k = true ∧ Has A H vv d ∧ es.length < 1000 ∧
  ∀ H' ents', Keep m H H' → TblAt P w A H' x m ents' → Ents A H' ents' (putE es k d) → Q .non H'
theorem ok_put_entry (L : Lib P K mg A) : FnOk P w K mg base CX0 3 L.put_entry.f L.put_entry.fd ["table", "key", "value"] (spPE P w A) := by
  have G_check_key : FnOk P w K mg base CX0 2 L.check_key.f L.check_key.fd ["key"] (spCK A) := ok_check_key L
  have G_check_size : FnOk P w K mg base CX0 1 L.check_size.f L.check_size.fd ["size"] spCS := ok_check_size L
  have G_Table_has : FnOk P w K mg base CX0 2 L.Table_has.f L.Table_has.fd ["self", "key"] (spTHas P w A) := ok_Table_has L
  have G_Table_many : FnOk P w K mg base CX0 1 L.Table_many.f L.Table_many.fd ["self"] (spTMany P w A) := ok_Table_many L
  have G_Table_put : FnOk P w K mg base CX0 2 L.Table_put.f L.Table_put.fd ["self", "key", "value"] (spTPut P w A) := ok_Table_put L
  refine L.put_entry.F.ok sc_put_entry (fun vs H Q E h => ?_) (fun cdv A' outer s H vs Q E hr h => ?_)
  · obtain ⟨x, m, kv, vv, k, d, ents, es, rfl, _⟩ := h
    rfl
  · obtain ⟨x, m, kv, vv, k, d, ents, es, rfl, hT, hE, hk, hkd, hv, hl, q⟩ := h
    obtain ⟨ekv, kok⟩ := has_key hk hkd
    subst ekv
    have hlen := hE.len
    refine ⟨_, (pss_cons (ps_expr (pe_call G_check_key (hr.mono (by omega)) (by rfl) L.check_key.g L.check_key.F.kp L.check_key.b .nil pass0 (pa_cons (pv 1) pa_nil)))
      (pss_cut (ps_if (pt_not (pt_val (pe_meth (pv 0) L.c_Table.cl L.Table_has.m G_Table_has (hr.mono (by omega)) L.Table_has.b .nil pass0 (pa_cons (pv 1) pa_nil))))
        (pss_one (ps_expr (pe_call G_check_size (hr.mono (by omega)) (by rfl) L.check_size.g L.check_size.F.kp L.check_size.b .nil pass0 (pa_cons (pe_op op_add (pe_prop (pv 0) L.c_Table.cl L.Table_many.m G_Table_many (hr.mono (by omega)) L.Table_many.b .nil pass0 rfl) pe_int) pa_nil))))
        pss_nil)
      (pss_one (ps_expr (pe_meth (pv 0) L.c_Table.cl L.Table_put.m G_Table_put (hr.mono (by omega)) L.Table_put.b .nil pass0 (pa_cons (pv 1) (pa_cons (pv 2) pa_nil))))))), ?_⟩
    obtain ⟨⟨dx, hx⟩, _, _⟩ := id hT
    have last : ∀ H3, Same H H3 → TblAt P w A H3 x m ents → Ents A H3 ents es → spTPut P w A [.ref x, toV k, vv] H3 (fun v H' => v = .non ∧ Q .non H') (fun _ _ _ => False) := fun H3 s3 hT3 hE3 => by
      refine ⟨x, m, ents, toV k, vv, rfl, hT3, kok, by omega, fun H' b q' kk hT' hq' nq' => ⟨rfl, ?_⟩⟩
      have ct := hT3.tab.at_
      have vk : Vk A H3 H' := ⟨fun v d h => by
        cases d with
        | obj n =>
          obtain ⟨b, dx, rfl, e⟩ := h
          exact ⟨b, dx, rfl, kk _ _ e fun z => by rw [z, ct] at e; cases e⟩
        | bi n =>
          obtain ⟨b, dx, rfl, e⟩ := h
          exact ⟨b, dx, rfl, kk _ _ e fun z => by rw [z, ct] at e; cases e⟩
        | _ => exact h, fun q xs e => kk _ _ e fun z => by rw [z, ct] at e; cases e⟩
      refine q H' _ (fun c u e n => kk _ _ (s3 _ _ e) n) hT' ((hE3.imp vk.v vk.t).put hkd hq' (vk.v _ _ (hv.sv (Same.sv s3))))
    let M : List (Option V) → Hp → Prop := fun σ' H' => σ' = [some (.ref x), some (toV k), some vv] ∧ Same H H'
    refine ⟨_, rfl, _, k, rfl, hk, hkd, fun H1 s1 => ⟨M, ?_, ?_⟩⟩
    · have hT1 := hT.same s1
      refine ⟨_, rfl, x, dx, _, rfl, s1 _ _ hx, tab_none (by decide +kernel), _, rfl, x, m, ents, _, rfl, hT1, kok, fun H2 s2 => ⟨_, rfl, ?_⟩⟩
      have s12 := s1.trans s2
      refine ite_or (fun _ => ?_) (fun _ => ⟨rfl, s12⟩)
      have hT2 := hT.same s12
      exact ⟨_, rfl, x, dx, _, rfl, s12 _ _ hx, x, m, ents, rfl, hT2, _, _, rfl, rfl, _, rfl, by omega, rfl, s12⟩
    · rintro σ' H3 ⟨rfl, s3⟩
      refine ⟨_, rfl, x, dx, _, rfl, s3 _ _ hx, tab_none (by decide +kernel), _, rfl, _, rfl, ?_⟩
      obtain ⟨x', m', e', k', v', z, a1, a2, a3, a4⟩ := last H3 s3 (hT.same s3) (hE.imp (fun v d h => h.sv (Same.sv s3)) (fun q xs e => s3 _ _ e))
      exact ⟨x', m', e', k', v', z, a1, a2, a3, fun H' b q' p1 p2 p3 p4 => (a4 H' b q' p1 p2 p3 p4).2⟩
end
end My
namespace My
open PySem L2 SX XT XS XE
open XD
open C8 (pss_cut tCut cutS_slice pe_gc)
/-- a method of a local that holds an instance of one of several classes -/
def tM0A (i : Nat) (m : Str) (S : Addr → Option Sp) : TE := fun σ H Q => ∃ p C dx fs sp, σ[i]? = some (some (.ref p)) ∧ H p = some (.ins C dx fs) ∧ fs.lookup m = none ∧ S C = some sp ∧ sp [.ref p] H Q E0
theorem pe_meth0A {X : Cx} {S : Addr → Option Sp} {x m : Str} {k i : Nat} {npos apos pos : Pos} (R : ∀ C sp, S C = some sp → ∃ (f : Addr) (fd : FuncData) (ps : List Str), Cls X.K C ∧ Meth X.K C m f ∧ FnOk X.prog X.w X.K X.mg X.base CX0 k f fd ps sp ∧ Binds X.K fd ps [])
    (hr : Room k X.A) (hN : X.N[i]? = some x) (hv : Vis X.env.scope x) (hdb : (x == ("__debug__" : Str)) = false) (hcd : (x == ("__classdict__" : Str)) = false)
    {pl : Sem Bool}
    (ht : eval (.Call (.Attribute (.Name x npos) m apos) [] [] pos) X.env = (do
      let ov ← eval (.Name x npos) X.env
      standAt apos.atName
      let (f, first) ← holding [ov] (getMethod ov m pl)
      callWith pos f first (backTo pos (starEach [] X.env)) (backToKw pos (keywordEach [] X.env))) := by rfl) :
    PE X (.Call (.Attribute (.Name x npos) m apos) [] [] pos) (tM0A i m S) := by
  refine ⟨fun pins s σ H Q I h => ?_⟩
  obtain ⟨p, C, dx, fs, sp, h1, h2, h3, h4, h5⟩ := h
  obtain ⟨f, fd, ps, c, hm, F, b⟩ := R C sp h4
  exact (pe_meth0 (pv i hN hv hdb hcd) c hm F hr b .nil pass0 ht).run pins s σ H Q I ⟨.ref p, h1, p, dx, fs, rfl, h2, h3, h5⟩
section
variable {P : Program} {w : World} {K : PySem.W.Frag} {mg : Str → Option Value} {base : Heap} {A : Ads}
theorem SM.fresh {H : Hp} {a : Sa} {S : St} (L : Lib P K mg A) (h : SM P w A H a S) {b : Addr} (n : H b = none) : ¬ a.own b := fun z => by
  obtain ⟨u, e, _⟩ := h.nv L z
  rw [n] at e
  cases e
theorem SM.grow {H H1 : Hp} {a : Sa} {S : St} {x m : Addr} (L : Lib P K mg A) (h : SM P w A H a S) (s1 : Same H H1) (nx : H x = none) (nm : H m = none) :
    x ∉ a.X ∧ m ∉ a.t :: a.o :: a.l :: a.M ∧ ∀ H2, Keep a.t H1 H2 → Ev a { a with X := a.X ++ [x], M := a.M ++ [m] } H H2 := by
  have fx := h.fresh L nx
  have fm := h.fresh L nm
  refine ⟨fun z => fx (.inr (.inr (.inr (.inr (.inl z))))), fun z => ?_, fun H2 k => ⟨fun b u e n => k _ _ (s1 _ _ e) fun z => n (.inr (.inl z)), rfl, fun b z => ?_⟩⟩
  · simp only [List.mem_cons] at z
    rcases z with z | z | z | z
    · exact fm (.inr (.inl z))
    · exact fm (.inr (.inr (.inl z)))
    · exact fm (.inr (.inr (.inr (.inl z))))
    · exact fm (.inr (.inr (.inr (.inr (.inr z)))))
  · rcases z with z | z | z | z | z | z
    · exact .inl (.inl z)
    · exact .inl (.inr (.inl z))
    · exact .inl (.inr (.inr (.inl z)))
    · exact .inl (.inr (.inr (.inr (.inl z))))
    · rcases List.mem_append.mp z with z | z
      · exact .inl (.inr (.inr (.inr (.inr (.inl z)))))
      · rw [List.mem_singleton] at z; exact .inr (z ▸ nx)
    · rcases List.mem_append.mp z with z | z
      · exact .inl (.inr (.inr (.inr (.inr (.inr z)))))
      · rw [List.mem_singleton] at z; exact .inr (z ▸ nm)
/-- how a new thing is told -/
def New (P : Program) (w : World) (A : Ads) (a : Sa) (S : St) (H : Hp) (d : Th) (Q : VK) : Prop := ∀ H' r a', Ev a a' H H' → SM P w A H' a' { S with things := S.things ++ [d] } → Has A H' (.ref r) (.obj S.things.length) → Q (.ref r) H'
def spML (P : Program) (w : World) (K : PySem.W.Frag) (A : Ads) : Sp := fun vs H Q _ => ∃ (a : Sa) (S : St) (l : Addr) (us : List V) (ds : List Dv), vs = [.ref a.s, .ref l] ∧ SM P w A H a S ∧ SqL K H l us ∧ Hs A H us ds ∧ ds.length ≤ 1000 ∧ S.things.length < 100000 ∧ New P w A a S H (.parts ds) Q
theorem ok_make_list (L : Lib P K mg A) : FnOk P w K mg base CX0 4 L.make_list.f L.make_list.fd ["store", "values"] (spML P w K A) := by
  have G_check_size : FnOk P w K mg base CX0 1 L.check_size.f L.check_size.fd ["size"] spCS := ok_check_size L
  have G_Store_make : FnOk P w K mg base CX0 3 L.Store_make.f L.Store_make.fd ["self", "thing"] (spMake P w A) := ok_Store_make L
  have G_Parts_init : FnOk P w K mg base CX0 1 L.Parts_init.f L.Parts_init.fd ["self", "held"] (spHI A.Parts "held" K) := ok_Parts_init L
  refine L.make_list.F.ok sc_make_list (fun vs H Q E h => ?_) (fun cdv A' outer s H vs Q E hr h => ?_)
  · obtain ⟨a, S, l, us, ds, rfl, _⟩ := h
    rfl
  · obtain ⟨a, S, l, us, ds, rfl, hS, hl, hd, hn, hb, q⟩ := h
    have hul := hd.len
    refine ⟨_, (pss_cons (ps_expr (pe_call G_check_size (hr.mono (by omega)) (by rfl) L.check_size.g L.check_size.F.kp L.check_size.b .nil pass0 (pa_cons (pe_callB call_len_seq (by rfl) L.z_len PySem.boot_len (pa_cons (pv 1) pa_nil)) pa_nil)))
      (pss_one (ps_ret (pe_meth (pv 0) L.c_Store.cl L.Store_make.m G_Store_make (hr.mono (by omega)) L.Store_make.b .nil pass0 (pa_cons (pe_make L.Parts_init.m G_Parts_init (hr.mono (by omega)) (by rfl) L.c_Parts.g L.Parts_init.b .nil pass0 (pa_cons (pv 1) pa_nil)) pa_nil))))), ?_⟩
    refine ⟨_, rfl, l, us, rfl, .inl hl, _, rfl, by omega, ?_⟩
    obtain ⟨dx, h1⟩ := hS.s_
    refine ⟨_, rfl, a.s, dx, _, rfl, h1, st_no _ _ _ _ (by decide +kernel) (by decide +kernel) (by decide +kernel) (by decide +kernel), _, rfl, ?_⟩
    intro x dy nx ndx ndxx
    have sm0 : Same H (upd (upd H dy (.own x)) x (.ins A.Parts dy [])) := fun b u e => by
      rw [upd_ne (ne_of_none e nx), upd_ne (ne_of_none e ndx)]
      exact e
    refine ⟨x, dy, l, us, rfl, upd_same, sm0.seq hl, fun H1 m k1 hx nm hm => ⟨rfl, ?_⟩⟩
    have s1 := Same.made nx ndx k1
    have nm0 : H m = none := sm0.free nm
    obtain ⟨g1, g2, g3⟩ := hS.grow L s1 nx nm0
    refine ⟨a, S, x, m, .parts ds, rfl, hS.same s1, ⟨dy, us, hx, hm, hd.imp fun _ _ h => h.sv (Same.sv s1)⟩, g1, g2, hb, fun H2 r k2 hS2 nr hr2 => ?_⟩
    exact q H2 r _ (g3 H2 k2) hS2 hr2
/-! ### make_map -/
theorem snocRec {α : Type} {motive : List α → Prop} (l : List α) (nil : motive []) (snoc : ∀ ps p, motive ps → motive (ps ++ [p])) : motive l := by
  have : ∀ n (l : List α), l.length = n → motive l := by
    intro n
    induction n with
    | zero => intro l h; rw [List.eq_nil_of_length_eq_zero h]; exact nil
    | succ n ih =>
      intro l h
      have hl : l ≠ [] := fun z => by rw [z] at h; cases h
      rw [← List.dropLast_concat_getLast hl]
      exact snoc _ _ (ih _ (by rw [List.length_dropLast]; omega))
  exact this _ l rfl
def Prs (A : Ads) (K : PySem.W.Frag) (H : Hp) : List V → List (Dv × Dv) → Prop
  | [], [] => True
  | v :: vs, p :: ps => (keyD p.1 = true ∧ ∃ q k u, v = .ref q ∧ SqT K H q [k, u] ∧ Has A H k p.1 ∧ Has A H u p.2) ∧ Prs A K H vs ps
  | _, _ => False
theorem Prs.len {H : Hp} : ∀ {vs : List V} {ps : List (Dv × Dv)}, Prs A K H vs ps → vs.length = ps.length
  | [], [], _ => rfl
  | _ :: _, _ :: _, h => congrArg (· + 1) (Prs.len h.2)
  | [], _ :: _, h => h.elim
  | _ :: _, [], h => h.elim
theorem Prs.at {H : Hp} : ∀ {vs : List V} {ps : List (Dv × Dv)} {i : Nat} {v : V}, Prs A K H vs ps → vs[i]? = some v → ∃ p q k u, ps[i]? = some p ∧ keyD p.1 = true ∧ v = .ref q ∧ SqT K H q [k, u] ∧ Has A H k p.1 ∧ Has A H u p.2
  | _ :: _, p :: _, 0, _, h, e => by
    simp at e
    subst e
    obtain ⟨h1, q, k, u, h2, h3, h4, h5⟩ := h.1
    exact ⟨p, q, k, u, rfl, h1, h2, h3, h4, h5⟩
  | _ :: _, _ :: _, i + 1, _, h, e => by
    simp at e
    obtain ⟨p, r⟩ := Prs.at h.2 e
    exact ⟨p, by simpa using r⟩
  | [], _ :: _, _, _, h, _ => h.elim
  | _ :: _, [], _, _, h, _ => h.elim
  | [], [], _, _, _, e => by simp at e
def putAll (ps : List (Dv × Dv)) : List (Dv × Dv) := ps.foldl (fun es p => putE es p.1 p.2) []
theorem putAll_snoc (ps : List (Dv × Dv)) (p : Dv × Dv) : putAll (ps ++ [p]) = putE (putAll ps) p.1 p.2 := by
  unfold putAll
  rw [List.foldl_append]
  rfl
theorem putAll_nd (ps : List (Dv × Dv)) : ((putAll ps).map Prod.fst).Nodup ∧ (putAll ps).length ≤ ps.length := by
  induction ps using My.snocRec with
  | nil => exact ⟨List.nodup_nil, Nat.le_refl _⟩
  | snoc ps p ih =>
    rw [putAll_snoc]
    exact ⟨putE_nd ih.1, by have := (putE_len (es := putAll ps) (k := p.1) (v := p.2)).1; rw [List.length_append, List.length_singleton]; omega⟩
def spMMp (P : Program) (w : World) (K : PySem.W.Frag) (A : Ads) : Sp := fun vs H Q _ => ∃ (a : Sa) (S : St) (l : Addr) (us : List V) (ps : List (Dv × Dv)), vs = [.ref a.s, .ref l] ∧ SM P w A H a S ∧ SqL K H l us ∧ Prs A K H us ps ∧ ps.length ≤ 1000 ∧ S.things.length < 100000 ∧ New P w A a S H (.table (putAll ps)) Q
theorem ok_make_map (L : Lib P K mg A) : FnOk P w K mg base CX0 4 L.make_map.f L.make_map.fd ["store", "pairs"] (spMMp P w K A) := by
  have G_Table_init : FnOk P w K mg base CX0 1 L.Table_init.f L.Table_init.fd ["self"] (spTI P w A) := ok_Table_init L
  have G_put_entry : FnOk P w K mg base CX0 3 L.put_entry.f L.put_entry.fd ["table", "key", "value"] (spPE P w A) := ok_put_entry L
  have G_Store_make : FnOk P w K mg base CX0 3 L.Store_make.f L.Store_make.fd ["self", "thing"] (spMake P w A) := ok_Store_make L
  refine L.make_map.F.ok sc_make_map (fun vs H Q E h => ?_) (fun cdv A' outer s H vs Q E hr h => ?_)
  · obtain ⟨a, S, l, us, ps, rfl, _⟩ := h
    rfl
  · obtain ⟨a, S, l, us, ps, rfl, hS, hl, hp, hn, hb, q⟩ := h
    have hul := hp.len
    refine ⟨_, (pss_cons (ps_set (i := 2) sc_make_map.nd rfl (.inl rfl) (pe_make0 L.Table_init.m G_Table_init (hr.mono (by omega)) (by rfl) L.c_Table.g L.Table_init.b .nil pass0))
      (pss_cons (ps_for PassesOwn.never rfl (pi_list (pv 1)) (pg_tup (by rfl) (pgs_cons (pg_name (i := 3) sc_make_map.nd rfl (.inl rfl)) (pgs_cons (pg_name (i := 4) sc_make_map.nd rfl (.inl rfl)) pgs_nil)))
        (pss_one (ps_expr (pe_call G_put_entry (hr.mono (by omega)) (by rfl) L.put_entry.g L.put_entry.F.kp L.put_entry.b .nil pass0 (pa_cons (pv 2) (pa_cons (pv 3) (pa_cons (pv 4) pa_nil)))))))
      (pss_one (ps_ret (pe_meth (pv 0) L.c_Store.cl L.Store_make.m G_Store_make (hr.mono (by omega)) L.Store_make.b .nil pass0 (pa_cons (pv 2) pa_nil)))))), ?_⟩
    intro x dx nx ndx ndxx
    have sm0 : Same H (upd (upd H dx (.own x)) x (.ins A.Table dx [])) := fun b u e => by
      rw [upd_ne (ne_of_none e nx), upd_ne (ne_of_none e ndx)]
      exact e
    refine ⟨x, dx, rfl, upd_same, fun H1 m k1 nm hT => ⟨rfl, ?_⟩⟩
    have s1 := Same.made nx ndx k1
    have nm0 : H m = none := sm0.free nm
    refine ⟨_, rfl, l, rfl, ⟨_, s1.seq hl⟩, for_list (K := K) (a := l) (xs := us) (fun i σ H' => ∃ (y3 y4 : Option V) (ents : List Ent), σ = [some (.ref a.s), some (.ref l), some (.ref x), y3, y4] ∧ Same H H' ∧ TblAt P w A H' x m ents ∧ Ents A H' ents (putAll (ps.take i))) ⟨none, none, [], rfl, s1, hT, trivial⟩ (fun i σ H' _ h => by obtain ⟨_, _, _, _, s', _⟩ := h; exact s'.seq hl) ?_ ?_⟩
    · rintro i v σ H2 hv ⟨y3, y4, ents, rfl, s2, hT2, hE2⟩
      obtain ⟨p, qd, kv, uv, ep, hk, rfl, ht, hk1, hu1⟩ := hp.at hv
      have hi : i < ps.length := (List.getElem?_eq_some_iff.mp ep).1
      refine ⟨qd, _, rfl, sqt_same s2 ht, rfl, _, _, rfl, _, _, rfl, rfl, ?_⟩
      have hlen : (putAll (ps.take i)).length < 1000 := by
        have h1 := (putAll_nd (ps.take i)).2
        rw [List.length_take] at h1
        omega
      refine ⟨_, rfl, _, rfl, _, rfl, x, m, kv, uv, p.1, p.2, ents, _, rfl, hT2, hE2, hk1.sv (Same.sv s2), hk, hu1.sv (Same.sv s2), hlen, fun H3 ents3 k3 hT3 hE3 => ⟨_, _, ents3, rfl, fun b u e => k3 _ _ (s2 _ _ e) (ne_of_none e nm0), hT3, ?_⟩⟩
      rw [List.take_add_one, ep]
      show Ents A H3 ents3 (putAll (ps.take i ++ [p]))
      rw [putAll_snoc]
      exact hE3
    · rintro σ H2 ⟨y3, y4, ents, rfl, s2, hT2, hE2⟩
      rw [hul, List.take_length] at hE2
      obtain ⟨dsx, h1⟩ := hS.s_
      obtain ⟨g1, g2, g3⟩ := hS.grow L s2 nx nm0
      refine ⟨_, rfl, a.s, dsx, _, rfl, s2 _ _ h1, st_no _ _ _ _ (by decide +kernel) (by decide +kernel) (by decide +kernel) (by decide +kernel), _, rfl, ?_⟩
      refine ⟨a, S, x, m, .table (putAll ps), rfl, hS.same s2, ⟨ents, hT2, hE2, (putAll_nd ps).1, by have := (putAll_nd ps).2; omega⟩, g1, g2, hb, fun H3 r k3 hS3 nr hr3 => ?_⟩
      exact q H3 r _ (g3 H3 k3) hS3 hr3
/-! ### next_of -/
def spNext (P : Program) (w : World) (A : Ads) : Sp := fun vs H Q _ => ∃ (a : Sa) (S : St) (r : Addr) (i : Nat) (ds : List Dv), vs = [.ref a.s, .ref r] ∧ SM P w A H a S ∧ Has A H (.ref r) (.obj i) ∧ S.things[i]? = some (.cursor ds) ∧
  ∀ H' l us, Ev a a H H' → SM P w A H' a { S with things := S.things.set i (.cursor (ds.drop 1)) } → H l = none → H' l = some (.lst us) → Hs A H' us (ds.take 1) → Q (.ref l) H'
theorem ok_next_of (L : Lib P K mg A) : FnOk P w K mg base CX0 2 L.next_of.f L.next_of.fd ["store", "ref"] (spNext P w A) := by
  have G_Store_at : FnOk P w K mg base CX0 1 L.Store_at.f L.Store_at.fd ["self", "ref"] (spAt P w A) := ok_Store_at L
  refine L.next_of.F.ok sc_next_of (fun vs H Q E h => ?_) (fun cdv A' outer s H vs Q E hr h => ?_)
  · obtain ⟨a, S, r, i, ds, rfl, _⟩ := h
    rfl
  · obtain ⟨a, S, r, i, ds, rfl, hS, hR, hi, q⟩ := h
    refine ⟨_, (pss_cons (ps_set (i := 2) sc_next_of.nd rfl (.inl rfl) (pe_meth (pv 0) L.c_Store.cl L.Store_at.m G_Store_at (hr.mono (by omega)) L.Store_at.b .nil pass0 (pa_cons (pv 1) pa_nil)))
      (pss_cons (ps_set (i := 3) sc_next_of.nd rfl (.inl rfl) (pe_slice sl_list (pe_fld (pv 2) rfl) po_none (po_some pe_int)))
      (pss_cons (ps_delS (pe_fld (pv 2) rfl) po_none (po_some pe_int))
      (pss_one (ps_ret (pv 3)))))), ?_⟩
    obtain ⟨dsx, h1⟩ := hS.s_
    obtain ⟨x, m, hx, hm, dx, us, e1, e2, e3⟩ := hS.get hi
    refine ⟨_, rfl, a.s, dsx, _, rfl, h1, st_no _ _ _ _ (by decide +kernel) (by decide +kernel) (by decide +kernel) (by decide +kernel), _, rfl, a, S, r, x, i, rfl, hS, hR, hx, ?_⟩
    refine ⟨_, rfl, x, A.Cursor, dx, _, _, rfl, e1, L.c_Cursor.cl, L.n_Cursor_rest, lk_hit, 1, rfl, m, us, rfl, SqL.of e2, fun l nl => ?_⟩
    have s1 := same_upd (o := .lst (cutV us none (some 1))) nl
    have c1 : cutV us none (some 1) = us.take 1 := by
      unfold cutV
      have e1 := HT.sIx_nat us.length us.length 1
      rw [show ((1 : Nat) : Int) = 1 from rfl] at e1
      rw [HT.sIx_none, e1]
      cases us with
      | nil => rfl
      | cons u us => simp
    have hbd : sliceBounds none (some 1) none us.length = (((0 : Nat) : Int), ((min 1 us.length : Nat) : Int), 1) := by
      simp only [sliceBounds, Option.getD_none]
      congr 1
      congr 1
      omega
    refine ⟨_, rfl, x, A.Cursor, dx, _, _, rfl, s1 _ _ e1, L.c_Cursor.cl, L.n_Cursor_rest, lk_hit, 1, rfl, m, us, 0, min 1 us.length, rfl, s1 _ _ e2, hbd, ?_⟩
    have hS1 := hS.same s1
    have nlm : l ≠ m := (ne_of_none e2 nl).symm
    have sv2 : Sv (upd H l (.lst (cutV us none (some 1)))) (upd (upd H l (.lst (cutV us none (some 1)))) m (.lst (us.take 0 ++ us.drop (max (min 1 us.length) 0)))) := fun b u e n => by
      rw [upd_ne fun z => by rw [z, s1 _ _ e2] at e; exact n _ (Option.some.inj e).symm]
      exact e
    have ed : us.take 0 ++ us.drop (max (min 1 us.length) 0) = us.drop 1 := by
      cases us with
      | nil => rfl
      | cons u us => simp
    have hS2 := hS1.setM (u := .lst (us.take 0 ++ us.drop (max (min 1 us.length) 0))) (d := .cursor (ds.drop 1)) hx hm sv2.vk ⟨dx, us.drop 1, by rw [upd_ne fun z => by rw [z, e2] at e1; cases e1]; exact s1 _ _ e1, by rw [upd_same, ed], (e3.drop 1).imp fun _ _ h => (h.sv (Same.sv s1)).sv sv2⟩
    refine ⟨_, rfl, q _ l (us.take 1) ⟨fun b u e n => ?_, rfl, fun _ z => .inl z⟩ hS2 nl (by rw [upd_ne nlm, upd_same, c1]) ((e3.take 1).imp fun _ _ h => (h.sv (Same.sv s1)).sv sv2)⟩
    have mm := List.mem_of_getElem? hm
    rw [upd_ne fun z => n (.inr (.inr (.inr (.inr (.inr (by rw [z]; exact mm))))))]
    exact s1 _ _ e
end
end My
namespace My
open PySem L2 SX XT XS XE XD XL
open C8 (pss_cut tCut cutS_slice pe_gc)
section
variable {P : Program} {w : World} {K : PySem.W.Frag} {mg : Str → Option Value} {base : Heap} {A : Ads}
theorem Same.vk {H H' : Hp} (s : Same H H') : Vk A H H' := (Same.sv s).vk
theorem ThAt.same {H H' : Hp} {x m : Addr} {d : Th} (h : ThAt P w A H x m d) (s : Same H H') : ThAt P w A H' x m d := h.imp (My.Same.vk s) (fun u e => s _ _ e) (fun u e => s _ _ e)
/-! ### fork -/
def spFk (P : Program) (w : World) (A : Ads) (p : Th → Bool) : Sp := fun vs H Q _ => ∃ x m d, vs = [.ref x] ∧ ThAt P w A H x m d ∧ p d = true ∧ ∀ H' x' m', Same H H' → ThAt P w A H' x' m' d → H x' = none → H m' = none → Q (.ref x') H'
def tU : Th → Bool
  | .cursor _ => true
  | _ => false
theorem ok_Parts_fork (L : Lib P K mg A) : FnOk P w K mg base CX0 3 L.Parts_fork.f L.Parts_fork.fd ["self"] (spFk P w A tP) := by
  have G_Parts_init : FnOk P w K mg base CX0 1 L.Parts_init.f L.Parts_init.fd ["self", "held"] (spHI A.Parts "held" K) := ok_Parts_init L
  refine L.Parts_fork.F.ok sc_Parts_fork (fun vs H Q E h => ?_) (fun cdv A' outer s H vs Q E hr h => ?_)
  · obtain ⟨x, m, d, rfl, _⟩ := h
    rfl
  · obtain ⟨x, m, d, rfl, hd, hp, q⟩ := h
    cases d with
    | parts ds =>
      obtain ⟨dx, us, h1, h2, h3⟩ := hd
      refine ⟨_, (pss_one (ps_ret (pe_make L.Parts_init.m G_Parts_init (hr.mono (by omega)) (by rfl) L.c_Parts.g L.Parts_init.b .nil pass0 (pa_cons (pe_fld (pv 0) rfl) pa_nil)))), ?_⟩
      refine ⟨_, rfl, x, A.Parts, dx, _, _, rfl, h1, L.c_Parts.cl, L.n_Parts_held, lk_hit, ?_⟩
      intro y dy ny ndy nyd
      have sm0 : Same H (upd (upd H dy (.own y)) y (.ins A.Parts dy [])) := fun b u e => by
        rw [upd_ne (ne_of_none e ny), upd_ne (ne_of_none e ndy)]
        exact e
      refine ⟨y, dy, m, us, rfl, upd_same, sm0.seq (SqL.of h2), fun H1 m1 k1 hy nm hm => ⟨rfl, ?_⟩⟩
      have s1 := Same.made ny ndy k1
      exact q H1 y m1 s1 ⟨dy, us, hy, hm, h3.imp fun _ _ h => h.sv (Same.sv s1)⟩ ny (sm0.free nm)
    | _ => cases hp
theorem ok_Cursor_fork (L : Lib P K mg A) : FnOk P w K mg base CX0 3 L.Cursor_fork.f L.Cursor_fork.fd ["self"] (spFk P w A tU) := by
  have G_Cursor_init : FnOk P w K mg base CX0 1 L.Cursor_init.f L.Cursor_init.fd ["self", "rest"] (spHI A.Cursor "rest" K) := ok_Cursor_init L
  refine L.Cursor_fork.F.ok sc_Cursor_fork (fun vs H Q E h => ?_) (fun cdv A' outer s H vs Q E hr h => ?_)
  · obtain ⟨x, m, d, rfl, _⟩ := h
    rfl
  · obtain ⟨x, m, d, rfl, hd, hp, q⟩ := h
    cases d with
    | cursor ds =>
      obtain ⟨dx, us, h1, h2, h3⟩ := hd
      refine ⟨_, (pss_one (ps_ret (pe_make L.Cursor_init.m G_Cursor_init (hr.mono (by omega)) (by rfl) L.c_Cursor.g L.Cursor_init.b .nil pass0 (pa_cons (pe_fld (pv 0) rfl) pa_nil)))), ?_⟩
      refine ⟨_, rfl, x, A.Cursor, dx, _, _, rfl, h1, L.c_Cursor.cl, L.n_Cursor_rest, lk_hit, ?_⟩
      intro y dy ny ndy nyd
      have sm0 : Same H (upd (upd H dy (.own y)) y (.ins A.Cursor dy [])) := fun b u e => by
        rw [upd_ne (ne_of_none e ny), upd_ne (ne_of_none e ndy)]
        exact e
      refine ⟨y, dy, m, us, rfl, upd_same, sm0.seq (SqL.of h2), fun H1 m1 k1 hy nm hm => ⟨rfl, ?_⟩⟩
      have s1 := Same.made ny ndy k1
      exact q H1 y m1 s1 ⟨dy, us, hy, hm, h3.imp fun _ _ h => h.sv (Same.sv s1)⟩ ny (sm0.free nm)
    | _ => cases hp
theorem kin_name {nm : Str} {v : V} {m : Addr} : (kinF nm v m).lookup ("name" : Str) = some (.str nm) := lk_hit
theorem kin_parent {nm : Str} {v : V} {m : Addr} : (kinF nm v m).lookup ("parent" : Str) = some v := by
  unfold kinF
  rw [lk_skip (by decide +kernel)]
  exact lk_hit
theorem kin_methods {nm : Str} {v : V} {m : Addr} : (kinF nm v m).lookup ("methods" : Str) = some (.ref m) := by
  unfold kinF
  rw [lk_skip (by decide +kernel), lk_skip (by decide +kernel)]
  exact lk_hit
theorem kin_put {nm : Str} {v : V} {m m' : Addr} : putF "methods" (V.ref m') (kinF nm v m) = kinF nm v m' := by rfl
theorem ok_Kin_fork (L : Lib P K mg A) : FnOk P w K mg base CX0 3 L.Kin_fork.f L.Kin_fork.fd ["self"] (spFk P w A tK) := by
  have G_Kin_init : FnOk P w K mg base CX0 1 L.Kin_init.f L.Kin_init.fd ["self", "name", "parent"] (spKI A) := ok_Kin_init L
  refine L.Kin_fork.F.ok sc_Kin_fork (fun vs H Q E h => ?_) (fun cdv A' outer s H vs Q E hr h => ?_)
  · obtain ⟨x, m, d, rfl, _⟩ := h
    rfl
  · obtain ⟨x, m, d, rfl, hd, hp, q⟩ := h
    cases d with
    | kin nm par ms =>
      obtain ⟨dx, v, kvs, h1, h2, h3, h4⟩ := hd
      refine ⟨_, (pss_cons (ps_set (i := 1) sc_Kin_fork.nd rfl (.inl rfl) (pe_make L.Kin_init.m G_Kin_init (hr.mono (by omega)) (by rfl) L.c_Kin.g L.Kin_init.b .nil pass0 (pa_cons (pe_fld (pv 0) rfl) (pa_cons (pe_fld (pv 0) rfl) pa_nil))))
      (pss_cons (ps_fld (pv 1) (pe_callTy (call_dictD) (by rfl) L.z_dict (by decide +kernel) (pa_cons (pe_fld (pv 0) rfl) pa_nil)) rfl)
      (pss_one (ps_ret (pv 1))))), ?_⟩
      refine ⟨_, rfl, x, A.Kin, dx, _, _, rfl, h1, L.c_Kin.cl, L.n_Kin_name, kin_name, _, rfl, x, A.Kin, dx, _, _, rfl, h1, L.c_Kin.cl, L.n_Kin_parent, kin_parent, ?_⟩
      intro y dy ny ndy nyd
      have sm0 : Same H (upd (upd H dy (.own y)) y (.ins A.Kin dy [])) := fun b u e => by
        rw [upd_ne (ne_of_none e ny), upd_ne (ne_of_none e ndy)]
        exact e
      refine ⟨y, dy, _, _, rfl, upd_same, fun H1 m1 k1 hy nm1 hm1 => ⟨rfl, ?_⟩⟩
      have s1 := Same.made ny ndy k1
      refine ⟨_, rfl, x, A.Kin, dx, _, _, rfl, s1 _ _ h1, L.c_Kin.cl, L.n_Kin_methods, kin_methods, m, kvs, rfl, .inl (s1 _ _ h3), fun m2 nm2 => ?_⟩
      have nym : y ≠ m2 := ne_of_none hy nm2
      refine ⟨_, rfl, y, A.Kin, dy, _, rfl, (by rw [upd_ne nym]; exact hy), L.c_Kin.cl, L.n_Kin_methods, (by show 3 < 1000; decide), ?_⟩
      have sF : Same H (upd (upd H1 m2 (.dK kvs)) y (.ins A.Kin dy (putF "methods" (V.ref m2) (kinF nm v m1)))) := fun b u e => by
        rw [upd_ne (ne_of_none e ny)]
        rw [upd_ne (ne_of_none (s1 _ _ e) nm2)]
        exact s1 _ _ e
      refine ⟨_, rfl, q _ y m2 sF ⟨dy, v, kvs, upd_same, h2.sv (Same.sv sF), by rw [upd_ne nym.symm]; exact upd_same, h4.imp fun _ _ h => h.sv (Same.sv sF)⟩ ny (s1.free nm2)⟩
    | _ => cases hp
def spII (A : Ads) : Sp := fun vs H Q _ => ∃ x dx v, vs = [.ref x, v] ∧ H x = some (.ins A.Instance dx []) ∧ ∀ H' m, Keep x H H' → H' x = some (.ins A.Instance dx (insF v m)) → H m = none → H' m = some (.dK []) → Q .non H'
theorem ok_Instance_init (L : Lib P K mg A) : FnOk P w K mg base CX0 1 L.Instance_init.f L.Instance_init.fd ["self", "owner"] (spII A) := by
  refine L.Instance_init.F.ok sc_Instance_init (fun vs H Q E h => ?_) (fun cdv A' outer s H vs Q E hr h => ?_)
  · obtain ⟨x, dx, v, rfl, _⟩ := h
    rfl
  · obtain ⟨x, dx, v, rfl, ha, q⟩ := h
    refine ⟨_, (pss_cons (ps_fld (pv 0) (pv 1) rfl)
      (pss_one (ps_fld (pv 0) pe_dnewK rfl))), ?_⟩
    refine ⟨_, rfl, _, rfl, x, A.Instance, dx, _, rfl, ha, L.c_Instance.cl, L.n_Instance_owner, (by show 0 < 1000; decide), ?_⟩
    refine fun m hm => ?_
    have nam : x ≠ m := ne_of_none upd_same hm
    refine ⟨_, rfl, x, A.Instance, dx, _, rfl, (by rw [upd_ne nam]; exact upd_same), L.c_Instance.cl, L.n_Instance_named, (by show 1 < 1000; decide), ?_⟩
    exact q _ m (fun b o e n => by rw [upd_ne n, upd_ne (ne_of_none (H := upd H x _) (by rw [upd_ne n]; exact e) hm), upd_ne n]; exact e) upd_same (by rw [upd_ne nam.symm] at hm; exact hm) (by rw [upd_ne nam.symm]; exact upd_same)
theorem ins_owner {v : V} {m : Addr} : (insF v m).lookup ("owner" : Str) = some v := lk_hit
theorem ins_named {v : V} {m : Addr} : (insF v m).lookup ("named" : Str) = some (.ref m) := by
  unfold insF
  rw [lk_skip (by decide +kernel)]
  exact lk_hit
theorem ok_Instance_fork (L : Lib P K mg A) : FnOk P w K mg base CX0 3 L.Instance_fork.f L.Instance_fork.fd ["self"] (spFk P w A tI) := by
  have G_Instance_init : FnOk P w K mg base CX0 1 L.Instance_init.f L.Instance_init.fd ["self", "owner"] (spII A) := ok_Instance_init L
  refine L.Instance_fork.F.ok sc_Instance_fork (fun vs H Q E h => ?_) (fun cdv A' outer s H vs Q E hr h => ?_)
  · obtain ⟨x, m, d, rfl, _⟩ := h
    rfl
  · obtain ⟨x, m, d, rfl, hd, hp, q⟩ := h
    cases d with
    | inst o ns =>
      obtain ⟨dx, v, kvs, h1, h2, h3, h4⟩ := hd
      refine ⟨_, (pss_cons (ps_set (i := 1) sc_Instance_fork.nd rfl (.inl rfl) (pe_make L.Instance_init.m G_Instance_init (hr.mono (by omega)) (by rfl) L.c_Instance.g L.Instance_init.b .nil pass0 (pa_cons (pe_fld (pv 0) rfl) pa_nil)))
      (pss_cons (ps_fld (pv 1) (pe_callTy (call_dictD) (by rfl) L.z_dict (by decide +kernel) (pa_cons (pe_fld (pv 0) rfl) pa_nil)) rfl)
      (pss_one (ps_ret (pv 1))))), ?_⟩
      refine ⟨_, rfl, x, A.Instance, dx, _, _, rfl, h1, L.c_Instance.cl, L.n_Instance_owner, ins_owner, ?_⟩
      intro y dy ny ndy nyd
      have sm0 : Same H (upd (upd H dy (.own y)) y (.ins A.Instance dy [])) := fun b u e => by
        rw [upd_ne (ne_of_none e ny), upd_ne (ne_of_none e ndy)]
        exact e
      refine ⟨y, dy, _, rfl, upd_same, fun H1 m1 k1 hy nm1 hm1 => ⟨rfl, ?_⟩⟩
      have s1 := Same.made ny ndy k1
      refine ⟨_, rfl, x, A.Instance, dx, _, _, rfl, s1 _ _ h1, L.c_Instance.cl, L.n_Instance_named, ins_named, m, kvs, rfl, .inl (s1 _ _ h3), fun m2 nm2 => ?_⟩
      have nym : y ≠ m2 := ne_of_none hy nm2
      refine ⟨_, rfl, y, A.Instance, dy, _, rfl, (by rw [upd_ne nym]; exact hy), L.c_Instance.cl, L.n_Instance_named, (by show 2 < 1000; decide), ?_⟩
      have sF : Same H (upd (upd H1 m2 (.dK kvs)) y (.ins A.Instance dy (putF "named" (V.ref m2) (insF v m1)))) := fun b u e => by
        rw [upd_ne (ne_of_none e ny)]
        rw [upd_ne (ne_of_none (s1 _ _ e) nm2)]
        exact s1 _ _ e
      refine ⟨_, rfl, q _ y m2 sF ⟨dy, v, kvs, upd_same, h2.sv (Same.sv sF), by rw [upd_ne nym.symm]; exact upd_same, h4.imp fun _ _ h => h.sv (Same.sv sF)⟩ ny (s1.free nm2)⟩
    | _ => cases hp
theorem Ents.at {H : Hp} : ∀ {es : List Ent} {ps : List (Dv × Dv)} {i : Nat} {e : Ent}, Ents A H es ps → es[i]? = some e → ∃ p q v, ps[i]? = some p ∧ keyD p.1 = true ∧ e.1 = toV p.1 ∧ e.2.2 = .ref q ∧ H q = some (.tup [e.1, v]) ∧ Has A H v p.2
  | _ :: _, p :: _, 0, _, h, e => by
    simp at e
    subst e
    obtain ⟨h1, h2, q, v, h3, h4, h5⟩ := h.1
    exact ⟨p, q, v, rfl, h1, h2, h3, h4, h5⟩
  | _ :: _, _ :: _, i + 1, _, h, e => by
    simp at e
    obtain ⟨p, r⟩ := Ents.at h.2 e
    exact ⟨p, by simpa using r⟩
  | [], _ :: _, _, _, h, _ => h.elim
  | _ :: _, [], _, _, h, _ => h.elim
  | [], [], _, _, _, e => by simp at e
theorem nodup_new {α : Type} [DecidableEq α] {l : List α} {i : Nat} {x : α} (n : l.Nodup) (e : l[i]? = some x) : x ∉ l.take i := fun h => by
  obtain ⟨j, hj, e2⟩ := List.getElem_of_mem h
  rw [List.length_take] at hj
  have : l[j]? = some x := by
    rw [List.getElem_take] at e2
    rw [List.getElem?_eq_getElem (by omega), e2]
  have := nodup_get n e this
  omega
theorem ok_Table_fork (L : Lib P K mg A) : FnOk P w K mg base CX0 3 L.Table_fork.f L.Table_fork.fd ["self"] (spFk P w A tT) := by
  have G_Table_init : FnOk P w K mg base CX0 1 L.Table_init.f L.Table_init.fd ["self"] (spTI P w A) := ok_Table_init L
  have G_Table_pairs : FnOk P w K mg base CX0 1 L.Table_pairs.f L.Table_pairs.fd ["self"] (spTPairs P w A) := ok_Table_pairs L
  have G_Table_put : FnOk P w K mg base CX0 2 L.Table_put.f L.Table_put.fd ["self", "key", "value"] (spTPut P w A) := ok_Table_put L
  refine L.Table_fork.F.ok sc_Table_fork (fun vs H Q E h => ?_) (fun cdv A' outer s H vs Q E hr h => ?_)
  · obtain ⟨x, m, d, rfl, _⟩ := h
    rfl
  · obtain ⟨x, m, d, rfl, hd, hp, q⟩ := h
    cases d with
    | table es =>
      obtain ⟨ents, hT, hE, hn, hl⟩ := hd
      have hel := hE.len
      refine ⟨_, (pss_cons (ps_set (i := 1) sc_Table_fork.nd rfl (.inl rfl) (pe_make0 L.Table_init.m G_Table_init (hr.mono (by omega)) (by rfl) L.c_Table.g L.Table_init.b .nil pass0))
      (pss_cons (ps_for PassesOwn.never rfl (pi_list (pe_meth0 (pv 0) L.c_Table.cl L.Table_pairs.m G_Table_pairs (hr.mono (by omega)) L.Table_pairs.b .nil pass0)) (pg_tup (by rfl) (pgs_cons (pg_name (i := 2) sc_Table_fork.nd rfl (.inl rfl)) (pgs_cons (pg_name (i := 3) sc_Table_fork.nd rfl (.inl rfl)) pgs_nil)))
        (pss_one (ps_expr (pe_meth (pv 1) L.c_Table.cl L.Table_put.m G_Table_put (hr.mono (by omega)) L.Table_put.b .nil pass0 (pa_cons (pv 2) (pa_cons (pv 3) pa_nil))))))
      (pss_one (ps_ret (pv 1))))), ?_⟩
      intro y dy ny ndy nyd
      have sm0 : Same H (upd (upd H dy (.own y)) y (.ins A.Table dy [])) := fun b u e => by
        rw [upd_ne (ne_of_none e ny), upd_ne (ne_of_none e ndy)]
        exact e
      refine ⟨y, dy, rfl, upd_same, fun H1 m1 k1 nm1 hT1 => ⟨rfl, ?_⟩⟩
      have s1 := Same.made ny ndy k1
      have nm0 : H m1 = none := sm0.free nm1
      obtain ⟨⟨dx, hx⟩, _, _⟩ := id hT
      refine ⟨_, rfl, x, dx, _, rfl, s1 _ _ hx, tab_none (by decide +kernel), x, m, ents, rfl, hT.same s1, fun H2 l s2 nl hl2 => ?_⟩
      have s12 := s1.trans s2
      refine ⟨l, rfl, ⟨_, SqL.of hl2⟩, for_list (K := K) (a := l) (xs := ents.map (·.2.2)) (fun i σ H' => ∃ (y2 y3 : Option V) (ents' : List Ent), σ = [some (.ref x), some (.ref y), y2, y3] ∧ Same H H' ∧ H' l = some (.lst (ents.map (·.2.2))) ∧ TblAt P w A H' y m1 ents' ∧ Ents A H' ents' (es.take i)) ⟨none, none, [], rfl, s12, hl2, hT1.same s2, trivial⟩ (fun i σ H' _ h => by obtain ⟨_, _, _, _, _, hl', _⟩ := h; exact SqL.of hl') ?_ ?_⟩
      · rintro i v σ H3 hv ⟨y2, y3, ents', rfl, s3, hl3, hT3, hE3⟩
        rw [List.getElem?_map] at hv
        cases hen : ents[i]? with
        | none => rw [hen] at hv; cases hv
        | some e =>
          rw [hen] at hv
          cases hv
          obtain ⟨p, qd, u, ep, hk, ek, e2, hq, hu⟩ := hE.at hen
          have hi : i < es.length := (List.getElem?_eq_some_iff.mp ep).1
          refine ⟨qd, _, e2, .inl (.inl (s3 _ _ hq)), rfl, _, _, rfl, _, _, rfl, rfl, ?_⟩
          obtain ⟨⟨dy', hy'⟩, hd', _⟩ := id hT3
          have hlen := hE3.len
          rw [List.length_take] at hlen
          refine ⟨_, rfl, y, dy', _, rfl, hy', tab_none (by decide +kernel), _, rfl, _, rfl, y, m1, ents', e.1, u, rfl, hT3, by rw [ek]; exact key_ok hk, by omega, fun H4 b q4 k4 hT4 hq4 nq4 => ?_⟩
          have s4 : Same H H4 := fun c uu ee => k4 _ _ (s3 _ _ ee) (ne_of_none ee nm0)
          have vk : Vk A H3 H4 := ⟨fun v d h => by
            have ct := hd'.at_
            cases d with
            | obj n =>
              obtain ⟨b, dx, rfl, e⟩ := h
              exact ⟨b, dx, rfl, k4 _ _ e fun z => by rw [z, ct] at e; cases e⟩
            | bi n =>
              obtain ⟨b, dx, rfl, e⟩ := h
              exact ⟨b, dx, rfl, k4 _ _ e fun z => by rw [z, ct] at e; cases e⟩
            | _ => exact h, fun q xs e => k4 _ _ e fun z => by rw [z, hd'.at_] at e; cases e⟩
          refine ⟨_, _, _, rfl, s4, k4 _ _ hl3 (fun z => by rw [z, hd'.at_] at hl3; cases hl3), hT4, ?_⟩
          have hnew : p.1 ∉ (es.take i).map Prod.fst := by
            rw [List.map_take]
            exact nodup_new hn (by rw [List.getElem?_map, ep]; rfl)
          rw [ek] at hq4 ⊢
          have := (hE3.imp vk.v vk.t).put (b := b) hk hq4 (hu.sv (Same.sv s4))
          rw [putE_new hnew] at this
          rw [List.take_add_one, ep]
          exact this
      · rintro σ H3 ⟨y2, y3, ents', rfl, s3, hl3, hT3, hE3⟩
        rw [List.length_map, hel, List.take_length] at hE3
        exact ⟨_, rfl, q H3 y m1 s3 ⟨ents', hT3, hE3, hn, hl⟩ ny nm0⟩
    | _ => cases hp
end
end My
namespace My
open PySem L2 SX XT XS XE XD XL
open C8 (pss_cut tCut cutS_slice pe_gc)
section
variable {P : Program} {w : World} {K : PySem.W.Frag} {mg : Str → Option Value} {base : Heap} {A : Ads}
/-! ### the fork of a store -/
def SF (P : Program) (w : World) (A : Ads) (C : Addr) : Option Sp :=
  if C = A.Parts then some (spFk P w A tP) else if C = A.Table then some (spFk P w A tT) else if C = A.Instance then some (spFk P w A tI) else if C = A.Kin then some (spFk P w A tK) else if C = A.Cursor then some (spFk P w A tU) else none
theorem sf_at (L : Lib P K mg A) (d : Th) : ∃ p, SF P w A (clsT A d) = some (spFk P w A p) ∧ p d = true := by
  cases d with
  | parts ds => exact ⟨tP, if_pos rfl, rfl⟩
  | table es => exact ⟨tT, by unfold SF clsT; rw [if_neg (ne_cls L.k_Table_Parts), if_pos rfl], rfl⟩
  | inst o ns => exact ⟨tI, by unfold SF clsT; rw [if_neg (ne_cls L.k_Instance_Parts), if_neg (ne_cls L.k_Instance_Table), if_pos rfl], rfl⟩
  | kin nm par ms => exact ⟨tK, by unfold SF clsT; rw [if_neg (ne_cls L.k_Kin_Parts), if_neg (ne_cls L.k_Kin_Table), if_neg (ne_cls L.k_Kin_Instance), if_pos rfl], rfl⟩
  | cursor ds => exact ⟨tU, by unfold SF clsT; rw [if_neg (ne_cls L.k_Cursor_Parts), if_neg (ne_cls L.k_Cursor_Table), if_neg (ne_cls L.k_Cursor_Instance), if_neg (ne_cls L.k_Cursor_Kin), if_pos rfl], rfl⟩
theorem sf_run (L : Lib P K mg A) : ∀ C sp, SF P w A C = some sp → ∃ (f : Addr) (fd : FuncData) (ps : List Str), Cls K C ∧ Meth K C "fork" f ∧ FnOk P w K mg base CX0 3 f fd ps sp ∧ Binds K fd ps [] := by
  intro C sp h
  unfold SF at h
  split at h
  · rename_i c; cases h; rw [c]; exact ⟨_, _, _, L.c_Parts.cl, L.Parts_fork.m, ok_Parts_fork L, L.Parts_fork.b⟩
  split at h
  · rename_i c; cases h; rw [c]; exact ⟨_, _, _, L.c_Table.cl, L.Table_fork.m, ok_Table_fork L, L.Table_fork.b⟩
  split at h
  · rename_i c; cases h; rw [c]; exact ⟨_, _, _, L.c_Instance.cl, L.Instance_fork.m, ok_Instance_fork L, L.Instance_fork.b⟩
  split at h
  · rename_i c; cases h; rw [c]; exact ⟨_, _, _, L.c_Kin.cl, L.Kin_fork.m, ok_Kin_fork L, L.Kin_fork.b⟩
  split at h
  · rename_i c; cases h; rw [c]; exact ⟨_, _, _, L.c_Cursor.cl, L.Cursor_fork.m, ok_Cursor_fork L, L.Cursor_fork.b⟩
  · cases h
theorem ThAt.xf {H : Hp} {x m : Addr} {d : Th} (h : ThAt P w A H x m d) : ∃ dx fs, H x = some (.ins (clsT A d) dx fs) ∧ fs.lookup ("fork" : Str) = none := by
  cases d with
  | parts ds => obtain ⟨dx, vs, h1, _⟩ := h; exact ⟨_, _, h1, by rw [lk_skip (by decide +kernel)]; rfl⟩
  | cursor ds => obtain ⟨dx, vs, h1, _⟩ := h; exact ⟨_, _, h1, by rw [lk_skip (by decide +kernel)]; rfl⟩
  | table es => obtain ⟨ents, ⟨⟨dx, h1⟩, _, _⟩, _⟩ := h; exact ⟨_, _, h1, tab_none (by decide +kernel)⟩
  | inst o ns => obtain ⟨dx, v, kvs, h1, _⟩ := h; exact ⟨_, _, h1, by unfold insF; rw [lk_skip (by decide +kernel), lk_skip (by decide +kernel)]; rfl⟩
  | kin nm par ms => obtain ⟨dx, v, kvs, h1, _⟩ := h; exact ⟨_, _, h1, by unfold kinF; rw [lk_skip (by decide +kernel), lk_skip (by decide +kernel), lk_skip (by decide +kernel)]; rfl⟩
/-- what was forked so far -/
structure Fks (P : Program) (w : World) (A : Ads) (HD H : Hp) (D : Addr) (X M : List Addr) (ds : List Th) : Prop where
  lx : X.length = ds.length
  lm : M.length = ds.length
  d : H D = some (.lst (X.map V.ref))
  th : ∀ (j : Nat) x m d, X[j]? = some x → M[j]? = some m → ds[j]? = some d → ThAt P w A H x m d
  nx : X.Nodup
  nm : M.Nodup
  fx : ∀ x ∈ X, HD x = none
  fm : ∀ m ∈ M, HD m = none
def spSFk (P : Program) (w : World) (A : Ads) : Sp := fun vs H Q _ => ∃ (a : Sa) (S : St), vs = [.ref a.s] ∧ SM P w A H a S ∧ S.things.length ≤ 100000 ∧ ∀ H' (b : Sa), Same H H' → SM P w A H' b S → (∀ c, b.own c → H c = none) → Q (.ref b.s) H'
theorem ok_Store_fork (L : Lib P K mg A) : FnOk P w K mg base CX0 5 L.Store_fork.f L.Store_fork.fd ["self"] (spSFk P w A) := by
  have G_Store_init : FnOk P w K mg base CX0 3 L.Store_init.f L.Store_init.fd ["self", "lines"] (spSI P w K A) := ok_Store_init L
  refine L.Store_fork.F.ok sc_Store_fork (fun vs H Q E h => ?_) (fun cdv A' outer s H vs Q E hr h => ?_)
  · obtain ⟨a, S, rfl, _⟩ := h
    rfl
  · obtain ⟨a, S, rfl, hS, hlen, q⟩ := h
    refine ⟨_, (pss_cons (ps_set (i := 1) sc_Store_fork.nd rfl (.inl rfl) (pe_make L.Store_init.m G_Store_init (hr.mono (by omega)) (by rfl) L.c_Store.g L.Store_init.b .nil pass0 (pa_cons (pe_fld (pv 0) rfl) pa_nil)))
      (pss_cons (ps_fld (pv 1) (pe_lc (own := [("thing", 2)]) (g := gName 2) (tt := tYes) (by rfl) sc_Store_fork.nd (pi_list (pe_fld (pv 0) rfl)) (blkOk_by (own := [("thing", 2)]) (N := ["self", "other", "thing"]) (sc := defScope (inClass (top 29) 3)) (by decide +kernel)) (fun _ _ _ _ _ => (pg_name (i := 2) sc_Store_fork.nd rfl (.inl rfl))) (fun _ _ _ _ _ => pts_nil) (fun _ _ _ _ _ => (pe_meth0A (S := SF P w A) (i := 2) (k := 3) (sf_run L) (hr.mono (by omega)) rfl (by first | exact Or.inl rfl | exact Or.inr (Or.inl rfl) | exact Or.inr (Or.inr rfl)) (by decide) (by decide)))) rfl)
      (pss_cons (ps_fld (pv 1) (pe_callTy call_list_of (by rfl) L.z_list (by decide +kernel) (pa_cons (pe_fld (pv 0) rfl) pa_nil)) rfl)
      (pss_cons (ps_fld (pv 1) (pe_fld (pv 0) rfl) rfl)
      (pss_one (ps_ret (pv 1))))))), ?_⟩
    obtain ⟨dsx, hs0⟩ := hS.s_
    refine ⟨_, rfl, a.s, A.Store, dsx, _, _, rfl, hs0, L.c_Store.cl, L.n_Store_lines, st_lines _ _ _ _, ?_⟩
    intro y dy ny ndy nyd
    have sm0 : Same H (upd (upd H dy (.own y)) y (.ins A.Store dy [])) := fun b u e => by
      rw [upd_ne (ne_of_none e ny), upd_ne (ne_of_none e ndy)]
      exact e
    refine ⟨y, dy, a.l, S.lines, rfl, upd_same, sm0.seq (SqL.of hS.l_), ne_of_none hS.l_ ny, fun H1 sa es k1 hM fr => ⟨rfl, ?_⟩⟩
    have s1 := Same.made ny ndy k1
    have hS1 := hS.same s1
    obtain ⟨dsx1, hs1⟩ := hS1.s_
    refine ⟨_, rfl, a.s, A.Store, dsx1, _, _, rfl, hs1, L.c_Store.cl, L.n_Store_things, st_things _ _ _ _, a.t, rfl, ⟨_, SqL.of hS1.t_⟩, fun D nD => ?_⟩
    have sD : Same H1 (upd H1 D (.lst [])) := same_upd nD
    refine lc_list (K := K) (a := a.t) (xs := a.X.map V.ref) (fun i H' => Same H1 H' ∧ ∃ X M, Fks P w A (upd H1 D (.lst [])) H' D X M (S.things.take i)) ⟨sD, [], [], ⟨rfl, rfl, upd_same, fun j x m d e => by simp at e, List.nodup_nil, List.nodup_nil, nofun, nofun⟩⟩ (fun i H' _ h => SqL.of (h.1 _ _ hS1.t_)) ?_ ?_
    · rintro i v H2 hv ⟨s2, X, M, F⟩
      rw [List.getElem?_map] at hv
      cases hx0 : a.X[i]? with
      | none => rw [hx0] at hv; cases hv
      | some x0 =>
        rw [hx0] at hv
        cases hv
        have hi : i < S.things.length := by
          have := (List.getElem?_eq_some_iff.mp hx0).1
          rw [hS.lx] at this
          exact this
        obtain ⟨d, hd⟩ : ∃ d, S.things[i]? = some d := ⟨_, List.getElem?_eq_getElem hi⟩
        obtain ⟨x1, m1, ex, em, ht⟩ := hS1.get hd
        rw [hx0] at ex
        cases ex
        have ht2 := ht.same s2
        obtain ⟨dx2, fs2, e2, nf⟩ := ht2.xf
        obtain ⟨p, hp1, hp2⟩ := sf_at (P := P) (w := w) L d
        have lenX : X.length = i := by rw [F.lx, List.length_take]; omega
        refine ⟨rfl, x0, _, dx2, fs2, _, rfl, e2, nf, hp1, x0, m1, d, rfl, ht2, hp2, fun H3 x' m' s3 ht3 nx' nm' => ?_⟩
        have hD3 := s3 _ _ F.d
        have nx1 : x' ≠ D := fun z => by rw [z, F.d] at nx'; cases nx'
        have nm1 : m' ≠ D := fun z => by rw [z, F.d] at nm'; cases nm'
        have eapp : X.map V.ref ++ [V.ref x'] = (X ++ [x']).map V.ref := by rw [List.map_append]; rfl
        have sv : Sv H3 (upd H3 D (.lst (X.map V.ref ++ [V.ref x']))) := fun b u e n => by
          rw [upd_ne fun z => by rw [z, hD3] at e; exact n _ (Option.some.inj e).symm]
          exact e
        have free : ∀ {b : Addr}, H2 b = none → upd H1 D (.lst []) b = none := fun {b} e => by
          have hb : b ≠ D := fun z => by rw [z, F.d] at e; cases e
          rw [upd_ne hb]
          exact s2.free e
        refine ⟨_, hD3, by rw [List.length_map, lenX]; exact Nat.lt_of_le_of_lt (m := 100000) (by omega) (by decide), fun b u e => ?_, X ++ [x'], M ++ [m'], ?_⟩
        · rw [upd_ne (ne_of_none e nD)]
          exact s3 _ _ (s2 _ _ e)
        · rw [List.take_add_one, hd]
          have lenM : M.length = i := by rw [F.lm, List.length_take]; omega
          refine ⟨by rw [List.length_append, lenX, List.length_append, List.length_take]; show i + 1 = _; rw [Nat.min_eq_left (by omega)]; rfl, by rw [List.length_append, lenM, List.length_append, List.length_take]; show i + 1 = _; rw [Nat.min_eq_left (by omega)]; rfl, by rw [upd_same, eapp], ?_, ?_, ?_, ?_, ?_⟩
          · intro j xj mj dj e1 e2 e3
            by_cases hj : j < i
            · rw [List.getElem?_append_left (by omega)] at e1 e2
              rw [List.getElem?_append_left (by rw [List.length_take]; omega)] at e3
              have t0 := (F.th j xj mj dj e1 e2 e3).same s3
              obtain ⟨dj1, fj1, ej1⟩ := t0.x
              refine t0.imp sv.vk (fun u e => ?_) (fun u e => ?_)
              · rw [upd_ne fun z => by rw [z, hD3] at ej1; cases ej1]; exact e
              · have hm := F.fm mj (List.mem_of_getElem? e2)
                rw [upd_ne fun z => by rw [z, upd_same] at hm; cases hm]; exact e
            · have hl := (List.getElem?_eq_some_iff.mp e1).1
              rw [List.length_append, List.length_singleton, lenX] at hl
              obtain rfl : j = i := by omega
              rw [List.getElem?_append_right (by omega), lenX, Nat.sub_self] at e1
              rw [List.getElem?_append_right (by omega), lenM, Nat.sub_self] at e2
              rw [List.getElem?_append_right (by rw [List.length_take]; omega), List.length_take, Nat.min_eq_left (by omega), Nat.sub_self] at e3
              cases e1
              cases e2
              cases e3
              obtain ⟨dj1, fj1, ej1⟩ := ht3.x
              exact ht3.imp sv.vk (fun u e => by rw [upd_ne nx1]; exact e) (fun u e => by rw [upd_ne nm1]; exact e)
          · rw [List.nodup_append]
            refine ⟨F.nx, by simp, fun b hb c hc z => ?_⟩
            rw [List.mem_singleton] at hc
            obtain ⟨j, hj, ej⟩ := List.getElem_of_mem hb
            have hjt : j < (S.things.take i).length := by rw [← F.lx]; exact hj
            have := F.th j b (M[j]'(by rw [F.lm]; exact hjt)) ((S.things.take i)[j]'hjt) (by rw [List.getElem?_eq_getElem hj, ej]) (List.getElem?_eq_getElem _) (List.getElem?_eq_getElem _)
            obtain ⟨d1, f1, e1⟩ := this.x
            rw [z, hc, nx'] at e1
            cases e1
          · rw [List.nodup_append]
            refine ⟨F.nm, by simp, fun b hb c hc z => ?_⟩
            rw [List.mem_singleton] at hc
            obtain ⟨j, hj, ej⟩ := List.getElem_of_mem hb
            have hjt : j < (S.things.take i).length := by rw [← F.lm]; exact hj
            have := F.th j (X[j]'(by rw [F.lx]; exact hjt)) b ((S.things.take i)[j]'hjt) (List.getElem?_eq_getElem _) (by rw [List.getElem?_eq_getElem hj, ej]) (List.getElem?_eq_getElem _)
            obtain ⟨u1, e1, _⟩ := this.m
            rw [z, hc, nm'] at e1
            cases e1
          · intro b hb
            rcases List.mem_append.mp hb with hb | hb
            · exact F.fx b hb
            · rw [List.mem_singleton] at hb; rw [hb]; exact free nx'
          · intro b hb
            rcases List.mem_append.mp hb with hb | hb
            · exact F.fm b hb
            · rw [List.mem_singleton] at hb; rw [hb]; exact free nm'
    · rintro H2 ⟨s2, X, M, F⟩
      rw [List.length_map, hS.lx, List.take_length] at F
      have hes : sa.s = y := es
      obtain ⟨dx0, hy1⟩ := hM.s_
      rw [hes] at hy1
      have nyD : y ≠ D := ne_of_none hy1 nD
      have hy2 := s2 _ _ hy1
      -- the things
      refine ⟨_, rfl, y, A.Store, dx0, _, rfl, hy2, L.c_Store.cl, L.n_Store_things, (by show 4 < 1000; decide), ?_⟩
      have g1 : putF "things" (V.ref D) (stF sa.t sa.o sa.l (stO S.lines).taken) = stF D sa.o sa.l 0 := by rfl
      rw [g1]
      have hsa := hS1.same s2
      obtain ⟨dsx2, hs2⟩ := hsa.s_
      have nsy : a.s ≠ y := ne_of_none hs0 ny
      refine ⟨_, rfl, a.s, A.Store, dsx2, _, _, rfl, (by rw [upd_ne nsy]; exact hs2), L.c_Store.cl, L.n_Store_output, st_output _ _ _ _, a.o, _, rfl, .inl (SqL.of (by rw [upd_ne (ne_of_none hS.o_ ny)]; exact hsa.o_)), fun o2 no2 => ?_⟩
      have T2 := two (U := .lst (S.out.map V.str)) (I := .ins A.Store dx0 (stF D o2 sa.l 0)) no2 (upd_same (H := H2) (a := y) (o := .ins A.Store dx0 (stF D sa.o sa.l 0)))
      refine ⟨_, rfl, y, A.Store, dx0, _, rfl, (by rw [upd_ne (ne_of_none upd_same no2)]; exact upd_same), L.c_Store.cl, L.n_Store_output, (by show 4 < 1000; decide), ?_⟩
      have g2 : putF "output" (V.ref o2) (stF D sa.o sa.l 0) = stF D o2 sa.l 0 := by rfl
      rw [g2]
      generalize upd (upd (upd H2 y (.ins A.Store dx0 (stF D sa.o sa.l 0))) o2 (.lst (S.out.map V.str))) y (.ins A.Store dx0 (stF D o2 sa.l 0)) = H3 at T2 ⊢
      have k3 : ∀ b u, H2 b = some u → b ≠ y → H3 b = some u := fun b u e n => T2.kk _ _ (by rw [upd_ne n]; exact e) n
      refine ⟨_, rfl, a.s, A.Store, dsx2, _, _, rfl, k3 _ _ hs2 nsy, L.c_Store.cl, L.n_Store_taken, st_taken _ _ _ _, ?_⟩
      refine ⟨_, rfl, y, A.Store, dx0, _, rfl, T2.aa, L.c_Store.cl, L.n_Store_taken, (by show 4 < 1000; decide), ?_⟩
      have g3 : putF "taken" (V.int (S.taken : Nat)) (stF D o2 sa.l 0) = stF D o2 sa.l S.taken := by rfl
      rw [g3]
      have k4 : ∀ b u, H2 b = some u → b ≠ y → upd H3 y (.ins A.Store dx0 (stF D o2 sa.l S.taken)) b = some u := fun b u e n => by rw [upd_ne n]; exact k3 _ _ e n
      have sF : Same H (upd H3 y (.ins A.Store dx0 (stF D o2 sa.l S.taken))) := fun b u e => k4 _ _ (s2 _ _ (s1 _ _ e)) (ne_of_none e ny)
      have lney : ∀ {b : Addr} {xs : List V}, H2 b = some (.lst xs) → b ≠ y := fun e z => by rw [z, hy2] at e; cases e
      have hlM := s2 _ _ hM.l_
      have vk : Vk A H2 (upd H3 y (.ins A.Store dx0 (stF D o2 sa.l S.taken))) := ⟨fun v d h => by
        cases d with
        | obj n =>
          obtain ⟨b, dx, rfl, e⟩ := h
          exact ⟨b, dx, rfl, k4 _ _ e fun z => by rw [z, hy2] at e; injection e with e; injection e with e; exact ne_cls L.k_Store_Ref e⟩
        | bi n =>
          obtain ⟨b, dx, rfl, e⟩ := h
          exact ⟨b, dx, rfl, k4 _ _ e fun z => by rw [z, hy2] at e; injection e with e; injection e with e; exact ne_cls L.k_Store_Builtin e⟩
        | _ => exact h, fun q xs e => k4 _ _ e fun z => by rw [z, hy2] at e; cases e⟩
      have hDn : H D = none := s1.free nD
      have o2n : H2 o2 = none := by
        have nyo : o2 ≠ y := fun z => by rw [z, upd_same] at no2; cases no2
        rw [upd_ne nyo] at no2
        exact no2
      have frH : ∀ {b : Addr}, upd H1 D (.lst []) b = none → H b = none := fun {b} e => by
        by_cases hb : b = D
        · rw [hb]; exact hDn
        · rw [upd_ne hb] at e; exact s1.free e
      refine ⟨_, rfl, q _ ⟨y, D, o2, sa.l, X, M⟩ sF ⟨⟨dx0, upd_same⟩, k4 _ _ F.d (lney F.d), by rw [upd_ne T2.na]; exact T2.tt, k4 _ _ hlM (lney hlM), F.lx, F.lm, fun j xj mj dj e1 e2 e3 => ?_, ?_, F.nx⟩ fun c hc => ?_⟩
      · have t0 := F.th j xj mj dj e1 e2 e3
        obtain ⟨d1, f1, h1⟩ := t0.x
        obtain ⟨u1, h2, h3, _⟩ := t0.m
        have fx := frH (F.fx _ (List.mem_of_getElem? e1))
        refine t0.imp vk (fun u e => k4 _ _ e fun z => ?_) (fun u e => k4 _ _ e fun z => by rw [z, hy2] at h2; exact h3 _ _ _ (Option.some.inj h2).symm)
        have fx := F.fx _ (List.mem_of_getElem? e1)
        rw [z, upd_ne nyD, hy1] at fx
        cases fx
      · have n1 : D ≠ o2 := ne_of_none F.d o2n
        have hl1 := hM.l_
        have n2 : D ≠ sa.l := (ne_of_none hl1 nD).symm
        have n3 : o2 ≠ sa.l := (ne_of_none hlM o2n).symm
        have nM : ∀ {b : Addr} {u : HO}, upd H1 D (.lst []) b = some u → b ∉ M := fun e h => by rw [F.fm _ h] at e; cases e
        have n4 := nM (b := D) upd_same
        have n5 : o2 ∉ M := fun h => by
          obtain ⟨j, hj, ej⟩ := List.getElem_of_mem h
          have hjt : j < S.things.length := by rw [← F.lm]; exact hj
          have t0 := F.th j (X[j]'(by rw [F.lx]; exact hjt)) o2 S.things[j] (List.getElem?_eq_getElem _) (by rw [List.getElem?_eq_getElem hj, ej]) (List.getElem?_eq_getElem _)
          obtain ⟨u1, h2, _⟩ := t0.m
          rw [o2n] at h2
          cases h2
        have n6 := nM (b := sa.l) (by rw [upd_ne n2.symm]; exact hl1)
        simp only [List.nodup_cons, List.mem_cons, not_or]
        exact ⟨⟨n1, n2, n4⟩, ⟨n3, n5⟩, n6, F.nm⟩
      · rcases hc with rfl | rfl | rfl | rfl | hc | hc
        · exact ny
        · exact hDn
        · exact s1.free (s2.free o2n)
        · rcases fr sa.l (.inr (.inr (.inr (.inl rfl)))) with z | z
          · have h5 := hM.l_
            rw [z, hy1] at h5
            cases h5
          · exact sm0.free z
        · exact frH (F.fx _ hc)
        · exact frH (F.fm _ hc)
end
end My
namespace My
open PySem L2 SX XT XS XE XD XL
open C8 (pss_cut tCut cutS_slice pe_gc)
section
variable {P : Program} {w : World} {K : PySem.W.Frag} {mg : Str → Option Value} {base : Heap} {A : Ads}
def itemsT : Option Th → Option (List Dv)
  | some (.parts ds) => some ds
  | some (.table es) => some (es.map Prod.fst)
  | _ => none
def itemsD (S : St) : Dv → Option (List Dv)
  | .str x => some ((signs x).map Dv.str)
  | .obj n => itemsT S.things[n]?
  | _ => none
theorem hs_strs {H : Hp} : ∀ xs : List Str, Hs A H (xs.map V.str) (xs.map Dv.str)
  | [] => trivial
  | _ :: xs => ⟨rfl, hs_strs xs⟩
def kn : Nat → Str := fun n => if n = 0 then "null" else if n = 1 then "boolean" else if n = 2 then "integer" else if n = 3 then "text" else if n = 4 then "function" else if n = 5 then "list" else if n = 6 then "map" else if n = 7 then "instance" else "class"
def kcT : Option Th → Nat
  | some (.parts _) => 5
  | some (.table _) => 6
  | some (.inst _ _) => 7
  | some (.kin _ _ _) => 8
  | _ => 4
def kc (S : St) : Dv → Nat
  | .non => 0
  | .bl _ => 1
  | .int _ => 2
  | .str _ => 3
  | .bi _ => 4
  | .obj n => kcT S.things[n]?
theorem kind_kn (S : St) (d : Dv) : kindD S d = kn (kc S d) ∧ kc S d < 9 := by
  cases d with
  | obj n =>
    show (match S.things[n]? with
      | some d => kindT d
      | none => "function") = kn (kcT S.things[n]?) ∧ kcT S.things[n]? < 9
    cases S.things[n]? with
    | none => exact ⟨rfl, by simp [kcT]⟩
    | some t => cases t <;> exact ⟨rfl, by simp [kcT]⟩
  | _ => exact ⟨rfl, by simp [kc]⟩
theorem kn_list : ∀ n, n < 9 → decide (V.str (kn n) = V.str "list") = decide (n = 5) := by decide +kernel
theorem kn_text : ∀ n, n < 9 → decide (V.str (kn n) = V.str "text") = decide (n = 3) := by decide +kernel
theorem kn_map : ∀ n, n < 9 → decide (V.str (kn n) = V.str "map") = decide (n = 6) := by decide +kernel
theorem kn_len : ∀ n, n < 9 → (("cannot go through " : Str) ++ kn n).length ≤ 100000 ∧ (kn n).length ≤ 100000 := by decide +kernel
theorem kn_msg : ∀ n, n < 9 → (Str.empty ++ ("cannot go through " : Str)) ++ kn n = ("cannot go through " : Str) ++ kn n := by decide +kernel
theorem kc5 {S : St} {d : Dv} (h : kc S d = 5) : ∃ n ds, d = .obj n ∧ S.things[n]? = some (.parts ds) := by
  cases d with
  | obj n =>
    have h : kcT S.things[n]? = 5 := h
    cases e : S.things[n]? with
    | none => rw [e] at h; cases h
    | some t =>
      rw [e] at h
      cases t <;> first | exact ⟨n, _, rfl, e⟩ | (cases h; done)
  | _ => cases h
theorem kc6 {S : St} {d : Dv} (h : kc S d = 6) : ∃ n es, d = .obj n ∧ S.things[n]? = some (.table es) := by
  cases d with
  | obj n =>
    have h : kcT S.things[n]? = 6 := h
    cases e : S.things[n]? with
    | none => rw [e] at h; cases h
    | some t =>
      rw [e] at h
      cases t <;> first | exact ⟨n, _, rfl, e⟩ | (cases h; done)
  | _ => cases h
theorem kc3 {S : St} {d : Dv} (h : kc S d = 3) : ∃ x, d = .str x := by
  cases d with
  | obj n =>
    have h : kcT S.things[n]? = 3 := h
    cases e : S.things[n]? with
    | none => rw [e] at h; cases h
    | some t => rw [e] at h; cases t <;> cases h
  | str x => exact ⟨x, rfl⟩
  | _ => cases h
theorem items_none {S : St} {d : Dv} (h3 : kc S d ≠ 3) (h5 : kc S d ≠ 5) (h6 : kc S d ≠ 6) : itemsD S d = none := by
  cases d with
  | obj n =>
    have h5 : kcT S.things[n]? ≠ 5 := h5
    have h6 : kcT S.things[n]? ≠ 6 := h6
    show itemsT S.things[n]? = none
    cases e : S.things[n]? with
    | none => rfl
    | some t =>
      rw [e] at h5 h6
      cases t <;> first | exact absurd rfl h5 | exact absurd rfl h6 | rfl
  | str x => exact absurd rfl h3
  | _ => rfl
def txtOk : Dv → Prop
  | .str x => x.length ≤ 1000
  | _ => True
def spMC (P : Program) (w : World) (A : Ads) : Sp := fun vs H Q E => ∃ (a : Sa) (S : St) (v : V) (d : Dv), vs = [.ref a.s, v] ∧ SM P w A H a S ∧ Has A H v d ∧ okV S d ∧ txtOk d ∧ S.things.length < 100000 ∧
  (∀ ds, itemsD S d = some ds → New P w A a S H (.cursor ds) Q) ∧ (itemsD S d = none → ∀ H', Same H H' → Err E A.ScriptError H' "KindError" ("cannot go through " ++ kindD S d))
theorem ok_make_cursor (L : Lib P K mg A) : FnOk P w K mg base (L2.CX P w) 4 L.make_cursor.f L.make_cursor.fd ["store", "x"] (spMC P w A) := by
  have G_kind_of : FnOk P w K mg base CX0 2 L.kind_of.f L.kind_of.fd ["store", "value"] (spKO P w A) := ok_kind_of L
  have G_Store_at : FnOk P w K mg base CX0 1 L.Store_at.f L.Store_at.fd ["self", "ref"] (spAt P w A) := ok_Store_at L
  have G_Store_make : FnOk P w K mg base CX0 3 L.Store_make.f L.Store_make.fd ["self", "thing"] (spMake P w A) := ok_Store_make L
  have G_Table_pairs : FnOk P w K mg base CX0 1 L.Table_pairs.f L.Table_pairs.fd ["self"] (spTPairs P w A) := ok_Table_pairs L
  have G_Cursor_init : FnOk P w K mg base CX0 1 L.Cursor_init.f L.Cursor_init.fd ["self", "rest"] (spHI A.Cursor "rest" K) := ok_Cursor_init L
  refine L.make_cursor.F.okX sc_make_cursor (fun vs H Q E h => ?_) (fun cdv A' outer s H vs Q E hr h => ?_)
  · obtain ⟨a, S, v, d, rfl, _⟩ := h
    rfl
  · obtain ⟨a, S, v, d, rfl, hS, hv, ho, htx, hb, q1, q2⟩ := h
    refine ⟨_, (pss_cons (ps_set (i := 2) sc_make_cursor.nd rfl (.inl rfl) (pe_call G_kind_of (hr.mono (by omega)) (by rfl) L.kind_of.g L.kind_of.F.kp L.kind_of.b .nil pass0 (pa_cons (pv 0) (pa_cons (pv 1) pa_nil))))
      (pss_cut (ps_if (pt_cmpR op_eq (pv 2) pe_str (nomark _))
        (pss_one (ps_set (i := 3) sc_make_cursor.nd rfl (.inl rfl) (pe_fld (pe_meth (pv 0) L.c_Store.cl L.Store_at.m G_Store_at (hr.mono (by omega)) L.Store_at.b .nil pass0 (pa_cons (pv 1) pa_nil)) rfl)))
        (pss_one (ps_if (pt_cmpR op_eq (pv 2) pe_str (nomark _))
        (pss_one (ps_set (i := 3) sc_make_cursor.nd rfl (.inl rfl) (pe_callTy (call_list_text rfl) (by rfl) L.z_list (by decide +kernel) (pa_cons (pv 1) pa_nil))))
        (pss_one (ps_if (pt_cmpR op_eq (pv 2) pe_str (nomark _))
        (pss_one (ps_setLc (i := 3) (own := [("key", 4), ("_", 5)]) (g := gTup K 2 (gCons (gName 4) (gCons (gName 5) gNil))) (tt := tYes) (by rfl) sc_make_cursor.nd rfl rfl (sw_true rfl rfl rfl (by decide +kernel)) (pi_list (pe_meth0 (pe_meth (pv 0) L.c_Store.cl L.Store_at.m G_Store_at (hr.mono (by omega)) L.Store_at.b .nil pass0 (pa_cons (pv 1) pa_nil)) L.c_Table.cl L.Table_pairs.m G_Table_pairs (hr.mono (by omega)) L.Table_pairs.b .nil pass0)) (blkOk_by (own := [("key", 4), ("_", 5)]) (N := ["store", "x", "kind", "rest", "key", "_"]) (sc := defScope (top 26)) (by decide +kernel)) (fun _ _ _ _ _ => (pg_tup (by rfl) (pgs_cons (pg_name (i := 4) sc_make_cursor.nd rfl (.inl rfl)) (pgs_cons (pg_name (i := 5) sc_make_cursor.nd rfl (.inl rfl)) pgs_nil)))) (fun _ _ _ _ _ => pts_nil) (fun _ _ _ _ _ => (pv 4))))
        (pss_one (ps_raise2 rfl L.x_ScriptError.T (L.x_ScriptError.F _ _) (hr.mono (by omega)) (takes_of rfl rfl rfl rfl) L.x_ScriptError.b (by rfl) L.x_ScriptError.g (pa_cons pe_str (pa_cons (pe_joined (.cons pe_str (.cons (pe_fmt (pv 2)) .nil))) pa_nil)))))))))
      (pss_one (ps_ret (pe_meth (pv 0) L.c_Store.cl L.Store_make.m G_Store_make (hr.mono (by omega)) L.Store_make.b .nil pass0 (pa_cons (pe_make L.Cursor_init.m G_Cursor_init (hr.mono (by omega)) (by rfl) L.c_Cursor.g L.Cursor_init.b .nil pass0 (pa_cons (pv 3) pa_nil)) pa_nil)))))), ?_⟩
    obtain ⟨dsx, hs0⟩ := hS.s_
    obtain ⟨ek, hk9⟩ := kind_kn S d
    refine ⟨_, rfl, _, rfl, a, S, v, d, rfl, hS, hv, ho, ?_⟩
    let M : List (Option V) → Hp → Prop := fun σ' H' => ∃ (l : Addr) (us : List V) (ds : List Dv) (y2 y4 y5 : Option V), σ' = [some (.ref a.s), some v, y2, some (.ref l), y4, y5] ∧ Same H H' ∧ SqL K H' l us ∧ Hs A H' us ds ∧ itemsD S d = some ds
    refine ⟨M, ?_, ?_⟩
    · refine ⟨_, rfl, rfl, _, rfl, ite_or (fun e => ?_) fun e1 => ?_⟩
      · rw [ek, kn_list _ hk9] at e
        obtain ⟨n, ds, rfl, hn⟩ := kc5 (of_decide_eq_true e)
        obtain ⟨x, m, hx, hm, dx, us, h1, h2, h3⟩ := hS.get hn
        obtain ⟨b, db, rfl, hb1⟩ := id hv
        exact ⟨_, rfl, a.s, dsx, _, rfl, hs0, st_no _ _ _ _ (by decide +kernel) (by decide +kernel) (by decide +kernel) (by decide +kernel), _, rfl, a, S, b, x, n, rfl, hS, hv, hx, x, A.Parts, dx, _, _, rfl, h1, L.c_Parts.cl, L.n_Parts_held, lk_hit, m, us, ds, _, _, _, rfl, fun _ _ e => e, SqL.of h2, h3, by show itemsT S.things[n]? = _; rw [hn]; rfl⟩
      rw [ek, kn_list _ hk9] at e1
      refine ⟨_, rfl, rfl, _, rfl, ite_or (fun e => ?_) fun e2 => ?_⟩
      · rw [ek, kn_text _ hk9] at e
        obtain ⟨x, rfl⟩ := kc3 (of_decide_eq_true e)
        cases hv
        have hx1 : x.length ≤ 1000 := htx
        exact ⟨_, rfl, x, rfl, Nat.le_trans hx1 (by decide), fun l nl => ⟨l, _, _, _, _, _, rfl, same_upd nl, SqL.of upd_same, hs_strs _, rfl⟩⟩
      rw [ek, kn_text _ hk9] at e2
      refine ⟨_, rfl, rfl, _, rfl, ite_or (fun e => ?_) fun e3 => ?_⟩
      · rw [ek, kn_map _ hk9] at e
        obtain ⟨n, es, rfl, hn⟩ := kc6 (of_decide_eq_true e)
        obtain ⟨x, m, hx, hm, ents, hT, hE, hnd, hle⟩ := hS.get hn
        obtain ⟨b, db, rfl, hb1⟩ := id hv
        obtain ⟨⟨dx, hx1⟩, _, _⟩ := id hT
        have hel := hE.len
        refine ⟨_, rfl, a.s, dsx, _, rfl, hs0, st_no _ _ _ _ (by decide +kernel) (by decide +kernel) (by decide +kernel) (by decide +kernel), _, rfl, a, S, b, x, n, rfl, hS, hv, hx, x, dx, _, rfl, hx1, tab_none (by decide +kernel), x, m, ents, rfl, hT, fun H1 l s1 nl hl => ⟨l, rfl, ⟨_, SqL.of hl⟩, fun D nD => ?_⟩⟩
        refine lc_list (K := K) (a := l) (xs := ents.map (·.2.2)) (fun i H' => Same H1 H' ∧ H' D = some (.lst ((ents.take i).map (·.1)))) ⟨same_upd nD, upd_same⟩ (fun i H' _ h => SqL.of (h.1 _ _ hl)) ?_ ?_
        · rintro i u H2 hu ⟨s2, hD⟩
          rw [List.getElem?_map] at hu
          cases hen : ents[i]? with
          | none => rw [hen] at hu; cases hu
          | some en =>
            rw [hen] at hu
            cases hu
            obtain ⟨p, qd, uv, ep, hk, ekey, e2', hq, hu'⟩ := hE.at hen
            have hi : i < ents.length := (List.getElem?_eq_some_iff.mp hen).1
            refine ⟨qd, _, e2', .inl (.inl (s2 _ _ (s1 _ _ hq))), rfl, _, _, rfl, _, _, rfl, rfl, rfl, _, rfl, _, hD, ?_, fun b u e => ?_, ?_⟩
            · rw [List.length_map, List.length_take]
              exact Nat.lt_of_le_of_lt (m := 1000) (by omega) (by decide)
            · rw [upd_ne (ne_of_none e nD)]; exact s2 _ _ e
            · rw [upd_same, List.take_add_one, hen, List.map_append]; rfl
        · rintro H2 ⟨s2, hD⟩
          rw [List.length_map, List.take_length] at hD
          refine ⟨D, _, es.map Prod.fst, _, _, _, rfl, s1.trans s2, SqL.of hD, ?_, by show itemsT S.things[n]? = _; rw [hn]; rfl⟩
          have : ∀ {es' : List Ent} {ps : List (Dv × Dv)}, Ents A H es' ps → Hs A H2 (es'.map (·.1)) (ps.map Prod.fst) := by
            intro es'
            induction es' with
            | nil =>
              intro ps h
              cases ps with
              | nil => trivial
              | cons p ps => exact h.elim
            | cons e es' ih =>
              intro ps h
              cases ps with
              | nil => exact h.elim
              | cons p ps => exact ⟨by show Has A H2 e.1 p.1; rw [h.1.2.1]; exact key_has h.1.1, ih h.2⟩
          exact this hE
      · rw [ek, kn_map _ hk9] at e3
        have hno := items_none (S := S) (d := d) (of_decide_eq_false e2) (of_decide_eq_false e1) (of_decide_eq_false e3)
        have q3 := q2 hno
        obtain ⟨l1, l2⟩ := kn_len _ hk9
        have l3 := kn_msg _ hk9
        rw [← ek] at l1 l2 l3
        have lt : ∀ {x : Str}, x.length ≤ 100000 → x.length ≤ sizeLine := fun h => Nat.le_trans h (by decide)
        refine ⟨_, rfl, lt (by decide +kernel), _, rfl, .inl ⟨_, rfl, lt l2, _, rfl, lt (by rw [l3]; exact l1), ?_⟩⟩
        rw [l3]
        exact made2 (by decide +kernel) l1 (q3 H fun _ _ e => e)
    · rintro σ' H1 ⟨l, us, ds, y2, y4, y5, rfl, s1, hl, hd, hi⟩
      refine ⟨_, rfl, a.s, dsx, _, rfl, s1 _ _ hs0, st_no _ _ _ _ (by decide +kernel) (by decide +kernel) (by decide +kernel) (by decide +kernel), _, rfl, ?_⟩
      intro x dy nx ndx ndxx
      have sm0 : Same H1 (upd (upd H1 dy (.own x)) x (.ins A.Cursor dy [])) := fun b u e => by
        rw [upd_ne (ne_of_none e nx), upd_ne (ne_of_none e ndx)]
        exact e
      refine ⟨x, dy, l, us, rfl, upd_same, sm0.seq hl, fun H2 m k2 hx nm hm => ⟨rfl, ?_⟩⟩
      have s2 := Same.made nx ndx k2
      have s12 := s1.trans s2
      obtain ⟨g1, g2, g3⟩ := hS.grow L s12 (s1.free nx) (s1.free (sm0.free nm))
      refine ⟨a, S, x, m, .cursor ds, rfl, hS.same s12, ⟨dy, us, hx, hm, hd.imp fun _ _ h => h.sv (Same.sv s2)⟩, g1, g2, hb, fun H3 r k3 hS3 nr hr3 => ?_⟩
      exact q1 ds hi H3 r _ (g3 H3 k3) hS3 hr3
end
end My
namespace My
open PySem L2 SX XT XS XE XD XL
open C8 (pss_cut tCut cutS_slice pe_gc)
theorem sqt_keep {K : PySem.W.Frag} {H H' : Hp} {p r : Addr} {xs ys : List V} (hk : Keep p H H') (hp : H p = some (.lst ys)) (h : SqT K H r xs) : SqT K H' r xs := by
  rcases h with (h | ⟨ob, h⟩) | h
  · exact .inl (.inl (hk _ _ h fun z => by rw [z, hp] at h; cases h))
  · exact .inl (.inr ⟨ob, hk _ _ h fun z => by rw [z, hp] at h; cases h⟩)
  · exact .inr h
variable {P : Program} {w : World} {K : PySem.W.Frag} {mg : Str → Option Value} {base : Heap} {A : Ads}
def StL (K : PySem.W.Frag) (H : Hp) (a p : Addr) (ns : List Int) : Prop := ∃ x k : Int, H p = some (.lst [.int x, .int k, .ref a]) ∧ 0 ≤ k ∧ SqL K H a (ns.map V.int)
theorem sql_keep {H H' : Hp} {a p : Addr} {x k : Int} {ns : List Int} (hk : Keep p H H') (hp : H p = some (.lst [.int x, .int k, .ref a])) (h : SqL K H a (ns.map V.int)) : SqL K H' a (ns.map V.int) := by
  rcases h with (h | ⟨ob, h⟩) | h
  · refine .inl (.inl (hk _ _ h fun z => ?_))
    rw [z, hp] at h
    have := Option.some.inj h
    injection this with e
    match ns, e with
    | [], e => cases e
    | [_], e => simp at e
    | [_, _], e => simp at e
    | _ :: _ :: _ :: _, e => simp at e
  · refine .inl (.inr ⟨ob, hk _ _ h fun z => ?_⟩)
    rw [z, hp] at h
    cases h
  · exact .inr h
theorem StL.same {H H' : Hp} {a p : Addr} {ns : List Int} (s : Same H H') (h : StL K H a p ns) : StL K H' a p ns := by
  obtain ⟨x, k, h1, h2, h3⟩ := h
  exact ⟨x, k, s _ _ h1, h2, s.seq h3⟩
def spCell (K : PySem.W.Frag) : Sp := fun vs H Q _ => ∃ (a : Addr) (ns : List Int) (k : Int), vs = [.ref a, .int k] ∧ SqL K H a (ns.map V.int) ∧ 0 ≤ k ∧ ∀ c : Int, Q (.int c) H
theorem ok_law_cell (L : Lib P K mg A) : FnOk P w K mg base CX0 1 L.law_cell.f L.law_cell.fd ["script", "k"] (spCell K) := by
  refine L.law_cell.F.ok sc_law_cell (fun vs H Q E h => ?_) (fun cdv A' outer s H vs Q E hr h => ?_)
  · obtain ⟨a, ns, k, rfl, _⟩ := h
    rfl
  · obtain ⟨a, ns, k, rfl, hS, h0, q⟩ := h
    refine ⟨_, pss_cons (ps_if (pt_cmpR op_lt (pv 1) (pe_callB call_len_seq (by rfl) L.z_len PySem.boot_len (pa_cons (pv 0) pa_nil)) (nomark _))
        (pss_one (ps_ret (pe_ix ix_list (pv 0) (pv 1) (fun _ _ => rfl))))
        pss_nil)
      (pss_one (ps_ret pe_int)), ?_⟩
    refine ⟨_, rfl, _, rfl, a, _, rfl, .inl hS, _, _, rfl, rfl, _, rfl, ite2 (fun e => ?_) (fun e => q 0)⟩
    have e1 : k < ((ns.map V.int).length : Nat) := of_decide_eq_true e
    obtain ⟨j, rfl⟩ : ∃ j : Nat, k = (j : Int) := ⟨k.toNat, by omega⟩
    have hj : j < ns.length := by
      rw [List.length_map] at e1
      omega
    refine ⟨_, rfl, _, rfl, a, _, _, V.int ns[j], rfl, rfl, hS, atI_nat ?_, q _⟩
    rw [List.getElem?_map, List.getElem?_eq_getElem hj]
    rfl
def spBegin (K : PySem.W.Frag) : Sp := fun vs H Q _ => ∃ (a : Addr) (ns : List Int) (k : Int), vs = [.ref a, .int k] ∧ SqL K H a (ns.map V.int) ∧ 0 ≤ k ∧ ∀ H' p, H p = none → Same H H' → StL K H' a p ns → Q (.ref p) H'
theorem ok_law_begin (L : Lib P K mg A) : FnOk P w K mg base CX0 1 L.law_begin.f L.law_begin.fd ["script", "k"] (spBegin K) := by
  refine L.law_begin.F.ok sc_law_begin (fun vs H Q E h => ?_) (fun cdv A' outer s H vs Q E hr h => ?_)
  · obtain ⟨a, ns, k, rfl, _⟩ := h
    rfl
  · obtain ⟨a, ns, k, rfl, hS, h0, q⟩ := h
    refine ⟨_, pss_one (ps_ret (pe_lst (pa_cons pe_int (pa_cons (pv 1) (pa_cons (pv 0) pa_nil))))), ?_⟩
    refine ⟨_, rfl, _, rfl, (by show 3 ≤ sizeLine; decide), fun p hp => q _ p hp (same_upd hp) ⟨0, k, upd_same, h0, (same_upd hp).seq hS⟩⟩
def spDraw (K : PySem.W.Frag) : Sp := fun vs H Q _ => ∃ (a p : Addr) (ns : List Int) (many : Int), vs = [.ref p, .int many] ∧ StL K H a p ns ∧ 0 < many ∧ many.natAbs < 2 ^ 80 ∧ ∀ H' (r : Int), Keep p H H' → StL K H' a p ns → 0 ≤ r → r < many → Q (.int r) H'
theorem ok_law_draw (L : Lib P K mg A) : FnOk P w K mg base CX0 2 L.law_draw.f L.law_draw.fd ["state", "many"] (spDraw K) := by
  have GC : FnOk P w K mg base CX0 1 L.law_cell.f L.law_cell.fd ["script", "k"] (spCell K) := ok_law_cell L
  refine L.law_draw.F.ok sc_law_draw (fun vs H Q E h => ?_) (fun cdv A' outer s H vs Q E hr h => ?_)
  · obtain ⟨a, p, ns, many, rfl, _⟩ := h
    rfl
  · obtain ⟨a, p, ns, many, rfl, ⟨x, k, hp, hk, hS⟩, h0, h1, q⟩ := h
    refine ⟨_, pss_cut (ps_if (pt_cmpR op_lt (pe_ix ix_list (pv 0) pe_int (fun _ _ => rfl)) (pv 1) (nomark _))
        (pss_cons (ps_set (i := 2) sc_law_draw.nd rfl (.inl rfl) (pe_ix ix_list (pv 0) pe_int (fun _ _ => rfl)))
        (pss_cons (ps_set (i := 3) sc_law_draw.nd rfl (.inl rfl) (pe_call GC hr (by rfl) L.law_cell.g L.law_cell.F.kp L.law_cell.b .nil pass0 (pa_cons (pe_ix ix_list (pv 0) pe_int (fun _ _ => rfl)) (pa_cons (pv 2) pa_nil))))
        (pss_cons (ps_set (i := 4) sc_law_draw.nd rfl (.inl rfl) pe_int)
        (pss_cons (ps_asg (pe_op op_add (pv 2) pe_int) (pg_sub (pv 0) pe_int set_list))
        (pss_cons (ps_asg (pe_callB call_abs (by rfl) L.z_abs (by decide +kernel) (pa_cons (pv 3) pa_nil)) (pg_sub (pv 0) pe_int set_list))
        (pss_one (ps_if (pt_chain op_lt op_lt (pe_un un_neg pe_int) (pv 3) pe_int)
          (pss_cons (ps_set (i := 5) sc_law_draw.nd rfl (.inl rfl) (pe_op op_mod (pe_callTy call_int1 (by rfl) L.z_int (by decide +kernel) (pa_cons (pe_op op_add (pe_op op_mul (pv 3) pe_int) (pe_op op_mul (pe_op op_add (pv 2) pe_int) pe_int)) pa_nil)) (pv 4)))
          (pss_one (ps_asg (pe_op op_add (pe_op op_mod (pe_callTy call_int1 (by rfl) L.z_int (by decide +kernel) (pa_cons (pe_op op_add (pe_op op_add (pe_op op_mulW (pv 5) (pv 5)) (pe_op op_mul pe_int (pv 5))) (pv 2)) pa_nil)) (pv 4)) (pv 4)) (pg_sub (pv 0) pe_int set_list))))
          pss_nil)))))))
        pss_nil)
      (pss_cons (ps_set (i := 6) sc_law_draw.nd rfl (.inl rfl) (pe_op op_mod (pe_callTy call_int1 (by rfl) L.z_int (by decide +kernel) (pa_cons (pe_ix ix_list (pv 0) pe_int (fun _ _ => rfl)) pa_nil)) (pv 1)))
      (pss_cons (ps_asg (pe_op op_fdivW (pe_ix ix_list (pv 0) pe_int (fun _ _ => rfl)) (pv 1)) (pg_sub (pv 0) pe_int set_list))
      (pss_one (ps_ret (pv 6))))), ?_⟩
    let M : List (Option V) → Hp → Prop := fun σ' H' => ∃ (y2 y3 y4 y5 : Option V) (x k : Int), σ' = [some (.ref p), some (.int many), y2, y3, y4, y5, none] ∧ Keep p H H' ∧ H' p = some (.lst [.int x, .int k, .ref a]) ∧ 0 ≤ k
    refine ⟨M, ⟨_, rfl, p, _, _, _, rfl, rfl, SqL.of hp, rfl, _, rfl, _, _, rfl, rfl, _, rfl, ite2 (fun e => ?_) (fun e => ⟨none, none, none, none, x, k, rfl, fun _ _ e _ => e, hp, hk⟩)⟩, ?_⟩
    · refine ⟨_, rfl, p, _, _, _, rfl, rfl, SqL.of hp, rfl, ?_⟩
      refine ⟨_, rfl, p, _, _, _, rfl, rfl, SqL.of hp, rfl, _, rfl, a, ns, k, rfl, hS, hk, fun cell => ?_⟩
      refine ⟨_, rfl, _, _, rfl, rfl, _, rfl, p, _, _, _, rfl, rfl, hp, rfl, ?_⟩
      refine ⟨_, rfl, _, rfl, _, rfl, p, _, _, _, rfl, rfl, upd_same, rfl, ?_⟩
      have fin : ∀ (z z' : Int) (Hx : Hp), Keep p H Hx → Keep p H (upd Hx p (.lst [.int z, .int z', .ref a])) := fun z z' Hx kx b o e n => by
        rw [upd_ne n]
        exact kx b o e n
      have k0 : Keep p H H := fun _ _ e _ => e
      have kA := fin x (k + 1) H k0
      have kB := fin (if cell < 0 then -cell else cell) (k + 1) _ kA
      have eB : upd (upd H p (.lst [.int x, .int (k + 1), .ref a])) p (.lst [.int (if cell < 0 then -cell else cell), .int (k + 1), .ref a]) p = some (.lst [.int (if cell < 0 then -cell else cell), .int (k + 1), .ref a]) := upd_same
      have done : ∀ (y5 : Option V) (z : Int) (Hx : Hp), Keep p H Hx → Hx p = some (.lst [.int z, .int (k + 1), .ref a]) → M [some (.ref p), some (.int many), some (.int k), some (.int cell), some (.int 618970019642690137449562111), y5, none] Hx := fun y5 z Hx k1 e1 => ⟨_, _, _, _, z, k + 1, rfl, k1, e1, by omega⟩
      refine ⟨_, rfl, _, rfl, _, _, rfl, rfl, _, rfl, ite2 (fun e1 => ⟨_, _, rfl, rfl, _, rfl, ite2 (fun e2 => ?_) (fun _ => done none _ _ kB eB)⟩) (fun _ => ⟨_, rfl, iteF (done none _ _ kB eB)⟩)⟩
      refine ⟨_, rfl, _, _, rfl, rfl, .inr ⟨by decide, by decide⟩, _, rfl, _, _, rfl, rfl, _, _, rfl, rfl, .inr ⟨by decide, by decide⟩, _, _, rfl, rfl, .inl ⟨_, rfl, _, rfl, _, _, rfl, rfl, (by show (0 : Int) < 618970019642690137449562111; decide), ?_⟩⟩
      dsimp only
      have m0 : 0 ≤ (cell * 2654435761 + (k + 1) * 6700417) % 618970019642690137449562111 := Int.emod_nonneg _ (by decide)
      have m1 : (cell * 2654435761 + (k + 1) * 6700417) % 618970019642690137449562111 < 618970019642690137449562111 := Int.emod_lt_of_pos _ (by decide)
      generalize (cell * 2654435761 + (k + 1) * 6700417) % 618970019642690137449562111 = mx at m0 m1 ⊢
      have mb : mx.natAbs < 2 ^ 90 := by
        have : (2 : Nat) ^ 90 = 1237940039285380274899124224 := by decide
        omega
      refine ⟨_, rfl, _, rfl, _, _, rfl, rfl, wide_mul mb mb (by decide) (by decide) (by decide), _, rfl, _, _, rfl, rfl, .inl ⟨by decide, by decide⟩, _, _, rfl, rfl, _, rfl, _, _, rfl, rfl, .inl ⟨_, rfl, _, rfl, _, _, rfl, rfl, (by show (0 : Int) < 618970019642690137449562111; decide), _, rfl, _, _, rfl, rfl, _, rfl, p, _, _, _, rfl, rfl, eB, rfl, ?_⟩⟩
      exact done _ _ _ (fin _ _ _ kB) upd_same
    rintro σ' H' ⟨y2, y3, y4, y5, x', k', rfl, k1, hp', hk'⟩
    refine ⟨_, rfl, p, _, _, _, rfl, rfl, SqL.of hp', rfl, .inl ⟨_, rfl, _, rfl, _, _, rfl, rfl, h0, ?_⟩⟩
    refine ⟨_, rfl, p, _, _, _, rfl, rfl, SqL.of hp', rfl, _, rfl, _, _, rfl, rfl, wide_div h0 h1 (by decide) (by decide), _, rfl, p, _, _, _, rfl, rfl, hp', rfl, ?_⟩
    have k2 : Keep p H (upd H' p (.lst [.int (x' / many), .int k', .ref a])) := fun b o e n => by
      rw [upd_ne n]
      exact k1 b o e n
    exact ⟨_, rfl, q _ _ k2 ⟨_, k', upd_same, hk', sql_keep k2 hp hS⟩ (Int.emod_nonneg _ (by omega)) (Int.emod_lt_of_pos _ h0)⟩
section
variable {P : Program} {w : World} {K : PySem.W.Frag} {mg : Str → Option Value} {base : Heap} {A : Ads}
def spPick (K : PySem.W.Frag) : Sp := fun vs H Q _ => ∃ (a p r : Addr) (ns : List Int) (xs : List V), vs = [.ref p, .ref r] ∧ StL K H a p ns ∧ SqT K H r xs ∧ 0 < xs.length ∧ xs.length ≤ 100 ∧ ∀ H' v, v ∈ xs → Keep p H H' → StL K H' a p ns → Q v H'
theorem ok_law_pick (L : Lib P K mg A) : FnOk P w K mg base CX0 3 L.law_pick.f L.law_pick.fd ["state", "row"] (spPick K) := by
  have GD : FnOk P w K mg base CX0 2 L.law_draw.f L.law_draw.fd ["state", "many"] (spDraw K) := ok_law_draw L
  refine L.law_pick.F.ok sc_law_pick (fun vs H Q E h => ?_) (fun cdv A' outer s H vs Q E hr h => ?_)
  · obtain ⟨a, p, r, ns, xs, rfl, _⟩ := h
    rfl
  · obtain ⟨a, p, r, ns, xs, rfl, hst, ht, h0, h1, q⟩ := h
    refine ⟨_, pss_one (ps_ret (pe_ix ix_tup (pv 1) (pe_call GD hr (by rfl) L.law_draw.g L.law_draw.F.kp L.law_draw.b .nil pass0 (pa_cons (pv 0) (pa_cons (pe_callB call_len_seq (by rfl) L.z_len PySem.boot_len (pa_cons (pv 1) pa_nil)) pa_nil))) (fun _ _ => rfl))), ?_⟩
    refine ⟨_, rfl, _, rfl, _, rfl, r, _, rfl, .inr ht, a, p, ns, _, rfl, hst, by omega, by omega, fun H' i k1 st i0 i1 => ?_⟩
    obtain ⟨j, rfl⟩ : ∃ j : Nat, i = (j : Int) := ⟨i.toNat, by omega⟩
    have hj : j < xs.length := by omega
    obtain ⟨x, k, hp, _⟩ := hst
    exact ⟨r, xs, _, xs[j], rfl, rfl, sqt_keep k1 hp ht, atI_nat (List.getElem?_eq_getElem hj), q H' _ (List.getElem_mem hj) k1 st⟩
end
end My
namespace My
open PySem L2 SX XT XS XE XD XL
open C8 (pss_cut tCut cutS_slice pe_gc)
section
variable {P : Program} {w : World} {K : PySem.W.Frag} {mg : Str → Option Value} {base : Heap} {A : Ads}
theorem StL.ofK {H7 H : Hp} {a p : Addr} {ns : List Int} {x k : Int} (st7 : StL K H7 a p ns) (kk : Keep p H7 H) (hp : H p = some (.lst [.int x, .int k, .ref a])) (h0 : 0 ≤ k) : StL K H a p ns := by
  obtain ⟨x7, k7, h7, _, hs⟩ := st7
  exact ⟨x, k, hp, h0, sql_keep kk h7 hs⟩
/-- the law's draws and a store beside them -/
structure LI (P : Program) (w : World) (K : PySem.W.Frag) (A : Ads) (a p : Addr) (ns : List Int) (H7 H : Hp) (sa : Sa) (S : St) : Prop where
  st7 : StL K H7 a p ns
  k7 : Keep p H7 H
  st : StL K H a p ns
  sm : SM P w A H sa S
  fr : ∀ b, sa.own b → H7 b = none
variable {a p : Addr} {ns : List Int} {H7 H H' : Hp} {sa sa' : Sa} {S S' : St}
theorem LI.np (L : LI P w K A a p ns H7 H sa S) : ¬ sa.own p := fun z => by
  obtain ⟨x, k, h, _⟩ := L.st7
  rw [L.fr p z] at h
  cases h
theorem LI.hp (L : LI P w K A a p ns H7 H sa S) : ∃ xs, H p = some (.lst xs) := by
  obtain ⟨x, k, h, _⟩ := L.st
  exact ⟨_, h⟩
theorem LI.draw (L : LI P w K A a p ns H7 H sa S) (k : Keep p H H') (st : StL K H' a p ns) : LI P w K A a p ns H7 H' sa S := by
  obtain ⟨xs, hp⟩ := L.hp
  exact ⟨L.st7, L.k7.trans k, st, L.sm.keep k hp L.np, L.fr⟩
theorem LI.sv (L : LI P w K A a p ns H7 H sa S) (k : Keep p H H') : Sv H H' := by
  obtain ⟨xs, hp⟩ := L.hp
  exact Keep.sv k hp
theorem LI.same (L : LI P w K A a p ns H7 H sa S) (s : Same H H') : LI P w K A a p ns H7 H' sa S := L.draw (My.Same.keep s) (L.st.same s)
theorem LI.ev (L : LI P w K A a p ns H7 H sa S) (e : Ev sa sa' H H') (sm : SM P w A H' sa' S') : LI P w K A a p ns H7 H' sa' S' := by
  obtain ⟨x, k, hp, h0, _⟩ := L.st
  have kk : Keep p H7 H' := fun b u h n => e.fr _ _ (L.k7 _ _ h n) fun z => by rw [L.fr b z] at h; cases h
  refine ⟨L.st7, kk, L.st7.ofK kk (e.fr _ _ hp L.np) h0, sm, fun b z => ?_⟩
  rcases e.gw b z with q | q
  · exact L.fr b q
  · cases h : H7 b with
    | none => rfl
    | some u =>
      by_cases hb : b = p
      · rw [hb, hp] at q; cases q
      · rw [L.k7 _ _ h hb] at q; cases q
/-! ### _law_pick of a text -/
def spPickS (K : PySem.W.Frag) : Sp := fun vs H Q _ => ∃ (a p : Addr) (ns : List Int) (x : Str), vs = [.ref p, .str x] ∧ StL K H a p ns ∧ 0 < x.length ∧ x.length ≤ 100 ∧ ∀ H' y, y ∈ signs x → Keep p H H' → StL K H' a p ns → Q (.str y) H'
theorem ok_law_pickS (L : Lib P K mg A) : FnOk P w K mg base CX0 3 L.law_pick.f L.law_pick.fd ["state", "row"] (spPickS K) := by
  have G_law_draw : FnOk P w K mg base CX0 2 L.law_draw.f L.law_draw.fd ["state", "many"] (spDraw K) := ok_law_draw L
  refine L.law_pick.F.ok sc_law_pick (fun vs H Q E h => ?_) (fun cdv A' outer s H vs Q E hr h => ?_)
  · obtain ⟨a, p, ns, x, rfl, _⟩ := h
    rfl
  · obtain ⟨a, p, ns, x, rfl, hst, h0, h1, q⟩ := h
    refine ⟨_, (pss_one (ps_ret (pe_ix ix_str (pv 1) (pe_call G_law_draw (hr.mono (by omega)) (by rfl) L.law_draw.g L.law_draw.F.kp L.law_draw.b .nil pass0 (pa_cons (pv 0) (pa_cons (pe_callB call_len_str (by rfl) L.z_len PySem.boot_len (pa_cons (pv 1) pa_nil)) pa_nil))) (fun _ _ => rfl)))), ?_⟩
    have hz : x.length ≤ sizeLine := Nat.le_trans h1 (by decide)
    refine ⟨_, rfl, _, rfl, _, rfl, x, rfl, hz, a, p, ns, _, rfl, hst, by omega, by omega, fun H' i k1 st i0 i1 => ?_⟩
    obtain ⟨j, rfl⟩ : ∃ j : Nat, i = (j : Int) := ⟨i.toNat, by omega⟩
    have hj : j < x.cps.toList.length := by
      have : x.length = x.cps.toList.length := rfl
      omega
    refine ⟨x, _, x.cps.toList[j], rfl, rfl, hz, atI_nat (List.getElem?_eq_getElem hj), q H' _ ?_ k1 st⟩
    unfold signs
    exact List.mem_map.mpr ⟨_, List.getElem_mem hj, rfl⟩
/-- what is neither the store's own nor the state stays -/
structure Od (p : Addr) (a b : Sa) (H H' : Hp) : Prop where
  fr : ∀ c u, H c = some u → ¬ a.own c → c ≠ p → H' c = some u
  s : b.s = a.s
  gw : ∀ c, b.own c → a.own c ∨ H c = none
theorem Od.trans {p : Addr} {a b c : Sa} {H H1 H2 : Hp} (x : Od p a b H H1) (y : Od p b c H1 H2) (np : ∃ u, H1 p = some u) : Od p a c H H2 := by
  refine ⟨fun d u e n q => y.fr _ _ (x.fr _ _ e n q) (fun z => ?_) q, y.s.trans x.s, fun d z => ?_⟩
  · rcases x.gw d z with q | q
    · exact n q
    · rw [q] at e; cases e
  · rcases y.gw d z with q | q
    · exact x.gw d q
    · cases e : H d with
      | none => exact .inr rfl
      | some u =>
        by_cases o : a.own d
        · exact .inl o
        · by_cases hp : d = p
          · obtain ⟨u, hu⟩ := np
            rw [hp, hu] at q; cases q
          · rw [x.fr _ _ e o hp] at q; cases q
theorem Od.keep {p : Addr} {a : Sa} {H H' : Hp} (k : Keep p H H') : Od p a a H H' := ⟨fun c u e _ n => k _ _ e n, rfl, fun _ z => .inl z⟩
theorem Od.ev {p : Addr} {a b : Sa} {H H' : Hp} (e : Ev a b H H') : Od p a b H H' := ⟨fun c u h n _ => e.fr _ _ h n, e.s, e.gw⟩
theorem Od.same {p : Addr} {a : Sa} {H H' : Hp} (s : Same H H') : Od p a a H H' := Od.keep (My.Same.keep s)
theorem Od.put {p D : Addr} {a b : Sa} {H H' : Hp} {o : HO} (x : Od p a b H H') (n : H D = none) : Od p a b H (upd H' D o) := ⟨fun c u e n1 n2 => by rw [upd_ne (ne_of_none e n)]; exact x.fr _ _ e n1 n2, x.s, x.gw⟩
theorem LI.h7 (L : LI P w K A a p ns H7 H sa S) {D : Addr} (n : H D = none) : H7 D = none := by
  cases h : H7 D with
  | none => rfl
  | some u =>
    by_cases hb : D = p
    · obtain ⟨xs, hp⟩ := L.hp
      rw [hb, hp] at n; cases n
    · rw [L.k7 _ _ h hb] at n; cases n
theorem LI.lst (L : LI P w K A a p ns H7 H sa S) {D : Addr} {xs ys : List V} (hD : H D = some (.lst xs)) (h7 : H7 D = none) (nd : ¬ sa.own D) (hp : D ≠ p) : LI P w K A a p ns H7 (upd H D (.lst ys)) sa S ∧ Sv H (upd H D (.lst ys)) := by
  have sv : Sv H (upd H D (.lst ys)) := fun b u e n => by
    rw [upd_ne fun z => by rw [z, hD] at e; exact n _ (Option.some.inj e).symm]
    exact e
  have kk : Keep p H7 (upd H D (.lst ys)) := fun b u e n => by rw [upd_ne (ne_of_none e h7)]; exact L.k7 _ _ e n
  obtain ⟨x, k, h1, h0, _⟩ := L.st
  exact ⟨⟨L.st7, kk, L.st7.ofK kk (by rw [upd_ne hp.symm]; exact h1) h0, L.sm.keep keep_upd hD nd, L.fr⟩, sv⟩
def szT : Th → Nat
  | .parts ds => ds.length
  | .table es => es.length
  | _ => 0
def spSrc (P : Program) (w : World) (K : PySem.W.Frag) (A : Ads) : Sp := fun vs H Q _ => ∃ (a p : Addr) (ns : List Int) (H7 : Hp) (sa : Sa) (S : St), vs = [.ref sa.s, .ref p] ∧ LI P w K A a p ns H7 H sa S ∧ S.things.length < 50000 ∧
  ∀ H' q v l us d ds sa' S' e, LI P w K A a p ns H7 H' sa' S' → Od p sa sa' H H' → S'.things = S.things ++ e → e.length ≤ 1 → (∀ t ∈ e, szT t ≤ 10 ∧ (tP t || tT t) = true) → Has A H' v d → okV S' d → txtOk d → itemsD S' d = some ds → (∀ n, d = .obj n → n = S.things.length ∧ e.length = 1) → H' l = some (.lst us) → Hs A H' us ds → ¬ sa'.own l → H l = none → H' q = some (.tup [v, .ref l]) → Q (.ref q) H'
theorem Prs.keep {H H' : Hp} {p : Addr} {ys : List V} (hk : Keep p H H') (hp : H p = some (.lst ys)) : ∀ {us : List V} {ps : List (Dv × Dv)}, Prs A K H us ps → Prs A K H' us ps
  | [], [], _ => trivial
  | _ :: _, _ :: _, ⟨⟨h1, q, k, u, h2, h3, h4, h5⟩, r⟩ => ⟨⟨h1, q, k, u, h2, sqt_keep hk hp h3, h4.sv (Keep.sv hk hp), h5.sv (Keep.sv hk hp)⟩, Prs.keep hk hp r⟩
  | [], _ :: _, h => h.elim
  | _ :: _, [], h => h.elim
theorem Prs.same {H H' : Hp} (s : Same H H') : ∀ {us : List V} {ps : List (Dv × Dv)}, Prs A K H us ps → Prs A K H' us ps
  | [], [], _ => trivial
  | _ :: _, _ :: _, ⟨⟨h1, q, k, u, h2, h3, h4, h5⟩, r⟩ => ⟨⟨h1, q, k, u, h2, sqt_same s h3, h4.sv (Same.sv s), h5.sv (Same.sv s)⟩, Prs.same s r⟩
  | [], _ :: _, h => h.elim
  | _ :: _, [], h => h.elim
theorem Prs.snoc {H : Hp} {q : Addr} {k u : V} {x : Dv × Dv} : ∀ {us : List V} {ps : List (Dv × Dv)}, Prs A K H us ps → keyD x.1 = true → SqT K H q [k, u] → Has A H k x.1 → Has A H u x.2 → Prs A K H (us ++ [.ref q]) (ps ++ [x])
  | [], [], _, h1, h2, h3, h4 => ⟨⟨h1, q, k, u, rfl, h2, h3, h4⟩, trivial⟩
  | _ :: _, _ :: _, h, h1, h2, h3, h4 => ⟨h.1, Prs.snoc h.2 h1 h2 h3 h4⟩
  | [], _ :: _, h, _, _, _, _ => h.elim
  | _ :: _, [], h, _, _, _, _ => h.elim
def five : List V := [.non, .bl true, .int 1, .str "1", .str "b"]
def fiveD : List Dv := [.non, .bl true, .int 1, .str "1", .str "b"]
theorem putAll_self : ∀ (ks : List Dv) (v : Dv), ks.Nodup → putAll (ks.map fun k => (k, v)) = ks.map fun k => (k, v) := by
  intro ks v
  induction ks using My.snocRec with
  | nil => intro _; rfl
  | snoc ks k ih =>
    intro h
    rw [List.nodup_append] at h
    rw [List.map_append, List.map_singleton, putAll_snoc, ih h.1]
    have : k ∉ (ks.map fun k => (k, v)).map Prod.fst := by
      rw [List.map_map]
      intro z
      obtain ⟨y, hy, e⟩ := List.mem_map.mp z
      exact h.2.2 y hy k (by simp) e
    exact putE_new this
theorem ok_law_source (L : Lib P K mg A) : FnOk P w K mg base CX0 5 L.law_source.f L.law_source.fd ["store", "state"] (spSrc P w K A) := by
  have G_law_draw : FnOk P w K mg base CX0 2 L.law_draw.f L.law_draw.fd ["state", "many"] (spDraw K) := ok_law_draw L
  have G_law_pick : FnOk P w K mg base CX0 3 L.law_pick.f L.law_pick.fd ["state", "row"] (spPick K) := ok_law_pick L
  have G_law_pickS : FnOk P w K mg base CX0 3 L.law_pick.f L.law_pick.fd ["state", "row"] (spPickS K) := ok_law_pickS L
  have G_Ref_init : FnOk P w K mg base CX0 1 L.Ref_init.f L.Ref_init.fd ["self", "number"] (spI1 A.Ref "number") := ok_Ref_init L
  have G_make_list : FnOk P w K mg base CX0 4 L.make_list.f L.make_list.fd ["store", "values"] (spML P w K A) := ok_make_list L
  have G_make_map : FnOk P w K mg base CX0 4 L.make_map.f L.make_map.fd ["store", "pairs"] (spMMp P w K A) := ok_make_map L
  refine L.law_source.F.ok sc_law_source (fun vs H Q E h => ?_) (fun cdv A' outer s H vs Q E hr h => ?_)
  · obtain ⟨a, p, ns, H7, sa, S, rfl, _⟩ := h
    rfl
  · obtain ⟨a, p, ns, H7, sa, S, rfl, I, hn, q⟩ := h
    have nd := sc_law_source.nd
    refine ⟨_, (pss_cons (ps_set (i := 2) sc_law_source.nd rfl (.inl rfl) (pe_call G_law_draw (hr.mono (by omega)) (by rfl) L.law_draw.g L.law_draw.F.kp L.law_draw.b .nil pass0 (pa_cons (pv 1) (pa_cons pe_int pa_nil))))
      (pss_cons (ps_if (pt_cmpR op_eq (pv 2) pe_int (nomark _))
        (pss_cons (ps_setLc (i := 3) (own := [("k", 5)]) (g := gName 5) (tt := tYes) (by rfl) sc_law_source.nd rfl rfl (sw_true rfl rfl rfl (by decide +kernel)) (pi_range1 (by rfl) L.z_range (pa_cons (pe_call G_law_draw (hr.mono (by omega)) (by rfl) L.law_draw.g L.law_draw.F.kp L.law_draw.b .nil pass0 (pa_cons (pv 1) (pa_cons pe_int pa_nil))) pa_nil)) (blkOk_by (own := [("k", 5)]) (N := ["store", "state", "kind", "row", "text", "k", "keys", "key"]) (sc := defScope (top 35)) (by decide +kernel)) (fun _ _ _ _ _ => (pg_name (i := 5) sc_law_source.nd rfl (.inl rfl))) (fun _ _ _ _ _ => pts_nil) (fun _ _ _ _ _ => (pe_call G_law_pick (hr.mono (by omega)) (by rfl) L.law_pick.g L.law_pick.F.kp L.law_pick.b .nil pass0 (pa_cons (pv 1) (pa_cons (pe_tup (pa_cons pe_non (pa_cons pe_bl (pa_cons pe_int (pa_cons pe_str (pa_cons (pe_make L.Ref_init.m G_Ref_init (hr.mono (by omega)) (by rfl) L.c_Ref.g L.Ref_init.b .nil pass0 (pa_cons pe_int pa_nil)) pa_nil)))))) pa_nil)))))
      (pss_one (ps_ret (pe_tup (pa_cons (pe_call G_make_list (hr.mono (by omega)) (by rfl) L.make_list.g L.make_list.F.kp L.make_list.b .nil pass0 (pa_cons (pv 0) (pa_cons (pv 3) pa_nil))) (pa_cons (pv 3) pa_nil))))))
        pss_nil)
      (pss_cons (ps_if (pt_cmpR op_eq (pv 2) pe_int (nomark _))
        (pss_cons (ps_set (i := 4) sc_law_source.nd rfl (.inr rfl) pe_str)
      (pss_cons (ps_for PassesOwn.never rfl (pi_range1 (by rfl) L.z_range (pa_cons (pe_call G_law_draw (hr.mono (by omega)) (by rfl) L.law_draw.g L.law_draw.F.kp L.law_draw.b .nil pass0 (pa_cons (pv 1) (pa_cons pe_int pa_nil))) pa_nil)) (pg_name (i := 5) sc_law_source.nd rfl (.inl rfl))
        (pss_one (ps_set (i := 4) sc_law_source.nd rfl (.inr rfl) (pe_op op_add_str (pv 4) (pe_call G_law_pickS (hr.mono (by omega)) (by rfl) L.law_pick.g L.law_pick.F.kp L.law_pick.b .nil pass0 (pa_cons (pv 1) (pa_cons pe_str pa_nil)))))))
      (pss_one (ps_ret (pe_tup (pa_cons (pv 4) (pa_cons (pe_lc (own := [("k", 5)]) (g := gName 5) (tt := tYes) (by rfl) sc_law_source.nd (pi_range1 (by rfl) L.z_range (pa_cons (pe_callB call_len_str (by rfl) L.z_len PySem.boot_len (pa_cons (pv 4) pa_nil)) pa_nil)) (blkOk_by (own := [("k", 5)]) (N := ["store", "state", "kind", "row", "text", "k", "keys", "key"]) (sc := defScope (top 35)) (by decide +kernel)) (fun _ _ _ _ _ => (pg_name (i := 5) sc_law_source.nd rfl (.inl rfl))) (fun _ _ _ _ _ => pts_nil) (fun _ _ _ _ _ => (pe_ix ix_str (pv 4) (pv 5) (fun _ _ => rfl)))) pa_nil)))))))
        pss_nil)
      (pss_cons (ps_set (i := 6) sc_law_source.nd rfl (.inl rfl) (pe_lst pa_nil))
      (pss_cons (ps_for PassesOwn.never rfl (pi_tup (pe_tup (pa_cons pe_non (pa_cons pe_bl (pa_cons pe_int (pa_cons pe_str (pa_cons pe_str pa_nil))))))) (pg_name (i := 7) sc_law_source.nd rfl (.inl rfl))
        (pss_one (ps_if (pt_cmpR op_eq (pe_call G_law_draw (hr.mono (by omega)) (by rfl) L.law_draw.g L.law_draw.F.kp L.law_draw.b .nil pass0 (pa_cons (pv 1) (pa_cons pe_int pa_nil))) pe_int (nomark _))
        (pss_one (ps_expr (pe_bm PySem.F.plainAttrs_list PySem.F.slot_list_append PySem.F.type_list_append mt_append (pv 6) (pa_cons (pv 7) pa_nil))))
        pss_nil)))
      (pss_one (ps_ret (pe_tup (pa_cons (pe_call G_make_map (hr.mono (by omega)) (by rfl) L.make_map.g L.make_map.F.kp L.make_map.b .nil pass0 (pa_cons (pv 0) (pa_cons (pe_lc (own := [("key", 7)]) (g := gName 7) (tt := tYes) (by rfl) sc_law_source.nd (pi_list (pv 6)) (blkOk_by (own := [("key", 7)]) (N := ["store", "state", "kind", "row", "text", "k", "keys", "key"]) (sc := defScope (top 35)) (by decide +kernel)) (fun _ _ _ _ _ => (pg_name (i := 7) sc_law_source.nd rfl (.inl rfl))) (fun _ _ _ _ _ => pts_nil) (fun _ _ _ _ _ => (pe_tup (pa_cons (pv 7) (pa_cons pe_int pa_nil))))) pa_nil))) (pa_cons (pv 6) pa_nil)))))))))), ?_⟩
    refine ⟨_, rfl, a, p, ns, 3, rfl, I.st, by decide, by decide, fun H1 r k1 st1 r0 r3 => ?_⟩
    have I1 := I.draw k1 st1
    refine ⟨_, rfl, rfl, _, rfl, ite_or (fun e => ?_) fun e => ?_⟩
    · refine ⟨_, rfl, a, p, ns, 8, rfl, I1.st, by decide, by decide, fun H2 m k2 st2 m0 m8 => ?_⟩
      have I2 := I1.draw k2 st2
      obtain ⟨n, rfl⟩ : ∃ n : Nat, m = (n : Int) := ⟨m.toNat, by omega⟩
      obtain ⟨xp, hp2⟩ := I2.hp
      refine ⟨_, rfl, by omega, by omega, fun D nD => ?_⟩
      have nDo : ¬ sa.own D := I2.sm.fresh L nD
      have h7D := I2.h7 nD
      have hDp : D ≠ p := (ne_of_none hp2 nD).symm
      refine lc_range (lo := 0) (n := n) (fun i H' => ∃ (us : List V) (ds : List Dv), LI P w K A a p ns H7 H' sa S ∧ Od p sa sa H2 H' ∧ H' D = some (.lst us) ∧ Hs A H' us ds ∧ ds.length = i) ⟨[], [], I2.same (same_upd nD), Od.same (same_upd nD), upd_same, trivial, rfl⟩ ?_ ?_
      · rintro i H3 hi ⟨us, ds, I3, o3, hD, hd, hdl⟩
        refine ⟨rfl, _, rfl, ?_⟩
        intro r dr nr ndr ndrr
        refine ⟨r, dr, _, rfl, upd_same, fun H4 k4 hr4 => ⟨rfl, ?_⟩⟩
        have s4 := Same.made nr ndr k4
        have I4 := I3.same s4
        refine ⟨(by show 5 ≤ sizeLine; decide), fun T nT => ?_⟩
        have s5 := same_upd (o := .tup [.non, .bl true, .int 0, .str "a", .ref r]) nT
        have I5 := I4.same s5
        refine ⟨a, p, T, ns, _, rfl, I5.st, .inl (.inl upd_same), (by show 0 < 5; decide), (by show 5 ≤ 100; decide), fun H6 v hv k6 st6 => ?_⟩
        have I6 := I5.draw k6 st6
        have hr6 : Has A H6 (.ref r) (.obj 0) := Has.sv (I5.sv k6) ⟨r, dr, rfl, s5 _ _ hr4⟩
        have hvd : ∃ d, Has A H6 v d := by
          simp only [List.mem_cons, List.not_mem_nil, or_false] at hv
          rcases hv with rfl | rfl | rfl | rfl | rfl
          · exact ⟨.non, rfl⟩
          · exact ⟨.bl true, rfl⟩
          · exact ⟨.int 0, rfl⟩
          · exact ⟨.str "a", rfl⟩
          · exact ⟨.obj 0, hr6⟩
        obtain ⟨d, hvd⟩ := hvd
        have hD6 := k6 _ _ (s5 _ _ (s4 _ _ hD)) hDp
        obtain ⟨I7, sv⟩ := I6.lst (ys := us ++ [v]) hD6 h7D nDo hDp
        have hul := hd.len
        obtain ⟨xp3, hp3⟩ := I3.hp
        obtain ⟨xp4, hp4⟩ := I4.hp
        obtain ⟨xp5, hp5⟩ := I5.hp
        refine ⟨_, hD6, Nat.lt_of_le_of_lt (m := 8) (by omega) (by decide), us ++ [v], ds ++ [d], I7, (((o3.trans (Od.same s4) ⟨_, hp3⟩).trans (Od.same s5) ⟨_, hp4⟩).trans (Od.keep k6) ⟨_, hp5⟩).put nD, upd_same, Hs.imp (fun _ _ h => h.sv sv) (Hs.app (Hs.imp (fun _ _ h => ((h.sv (Same.sv s4)).sv (Same.sv s5)).sv (I5.sv k6)) hd) (show Hs A H6 [v] [d] from ⟨hvd, trivial⟩)), by rw [List.length_append, hdl]; rfl⟩
      · rintro H3 ⟨us, ds, I3, o3, hD, hd, hdl⟩
        obtain ⟨xp3, hp3⟩ := I3.hp
        refine ⟨_, rfl, _, rfl, sa, S, D, us, ds, rfl, I3.sm, SqL.of hD, hd, by omega, by omega, fun H4 r a' ev4 sm4 hr4 => ?_⟩
        have I4 := I3.ev ev4 sm4
        have hD4 := ev4.fr _ _ hD nDo
        have vk := Fr.vk L I3.sm ev4.fr
        refine ⟨_, rfl, (by show 2 ≤ sizeLine; decide), fun T nT => ?_⟩
        have s5 := same_upd (o := .tup [.ref r, .ref D]) nT
        have oA : Od p sa a' H H4 := ((Od.keep k1).trans ((Od.keep k2).trans (o3.trans (Od.ev ev4) ⟨_, hp3⟩) ⟨_, hp2⟩) (by obtain ⟨x, h⟩ := I1.hp; exact ⟨_, h⟩))
        have nD0 : H D = none := by
          cases h : H D with
          | none => rfl
          | some u =>
            have := k2 _ _ (k1 _ _ h hDp) hDp
            rw [nD] at this; cases this
        have oF : Od p sa a' H (upd H4 T (.tup [.ref r, .ref D])) := oA.trans (Od.same s5) (by obtain ⟨x, h⟩ := I4.hp; exact ⟨_, h⟩)
        exact q _ T (.ref r) D us (.obj S.things.length) ds a' _ [.parts ds] (I4.same s5) oF rfl (by simp) (fun t ht => by rw [List.mem_singleton] at ht; subst ht; exact ⟨by show ds.length ≤ 10; omega, rfl⟩) (hr4.sv (Same.sv s5)) (by show S.things.length < (S.things ++ [_]).length; simp) trivial (by show itemsT (S.things ++ [Th.parts ds])[S.things.length]? = some ds; rw [List.getElem?_append_right (Nat.le_refl _), Nat.sub_self]; rfl) (fun n e => by cases e; exact ⟨rfl, rfl⟩) (s5 _ _ hD4) (hd.imp fun v d h => (vk.v v d h).sv (Same.sv s5)) (ev4.nin hD nDo) nD0 upd_same
    refine ⟨_, rfl, rfl, _, rfl, ite_or (fun e => ?_) fun e => ?_⟩
    · obtain ⟨xp1, hp1⟩ := I1.hp
      refine ⟨_, rfl, a, p, ns, 8, rfl, I1.st, by decide, by decide, fun H2 m k2 st2 m0 m8 => ?_⟩
      have I2 := I1.draw k2 st2
      obtain ⟨n, rfl⟩ : ∃ n : Nat, m = (n : Int) := ⟨m.toNat, by omega⟩
      obtain ⟨xp2, hp2⟩ := I2.hp
      refine ⟨_, rfl, by omega, by omega, for_range (n := n) (fun i σ H' => ∃ (x : Str) (yk : Option V), σ = [some (.ref sa.s), some (.ref p), some (.int r), none, some (.str x), yk, none, none] ∧ LI P w K A a p ns H7 H' sa S ∧ Od p sa sa H2 H' ∧ x.length ≤ i) ⟨"", none, rfl, I2, Od.keep fun _ _ e _ => e, Nat.zero_le _⟩ ?_ ?_⟩
      · rintro i σ H3 hi ⟨x, yk, rfl, I3, o3, hx⟩
        obtain ⟨xp3, hp3⟩ := I3.hp
        refine ⟨_, rfl, _, rfl, a, p, ns, "ab \n~", rfl, I3.st, by decide +kernel, by decide +kernel, fun H4 y hy k4 st4 => ?_⟩
        have hy1 : y.length = 1 := by
          unfold signs at hy
          obtain ⟨c, _, rfl⟩ := List.mem_map.mp hy
          rfl
        refine ⟨_, _, rfl, rfl, Nat.le_trans (m := 9) (by omega) (by decide), x ++ y, _, rfl, I3.draw k4 st4, o3.trans (Od.keep k4) ⟨_, hp3⟩, by rw [Str.length_append]; omega⟩
      · rintro σ H3 ⟨x, yk, rfl, I3, o3, hx⟩
        obtain ⟨xp3, hp3⟩ := I3.hp
        refine ⟨_, rfl, _, rfl, x, rfl, Nat.le_trans (m := 9) (by omega) (by decide), _, rfl, by omega, by omega, fun D nD => ?_⟩
        have nDo : ¬ sa.own D := I3.sm.fresh L nD
        have hDp : D ≠ p := (ne_of_none hp3 nD).symm
        have hxl : x.length = x.cps.toList.length := rfl
        refine lc_range (lo := 0) (n := x.length) (fun i H' => Same H3 H' ∧ H' D = some (.lst (((signs x).take i).map V.str))) ⟨same_upd nD, upd_same⟩ ?_ ?_
        · rintro i H4 hi ⟨s4, hD⟩
          have hi2 : i < x.cps.toList.length := by omega
          have hget : (signs x)[i]? = some ⟨#[x.cps.toList[i]]⟩ := by
            unfold signs
            rw [List.getElem?_map, List.getElem?_eq_getElem hi2]
            rfl
          rw [Int.zero_add]
          refine ⟨rfl, _, rfl, _, rfl, x, _, x.cps.toList[i], rfl, rfl, Nat.le_trans (m := 9) (by omega) (by decide), atI_nat (List.getElem?_eq_getElem hi2), _, hD, ?_, fun b u e => ?_, ?_⟩
          · rw [List.length_map, List.length_take]
            exact Nat.lt_of_le_of_lt (m := 9) (by omega) (by decide)
          · rw [upd_ne (ne_of_none e nD)]; exact s4 _ _ e
          · rw [upd_same, List.take_add_one, hget, List.map_append]; rfl
        · rintro H4 ⟨s4, hD⟩
          have hsl : (signs x).length = x.length := by unfold signs; rw [List.length_map]; rfl
          rw [← hsl, List.take_length] at hD
          refine ⟨(by show 2 ≤ sizeLine; decide), fun T nT => ?_⟩
          have s5 := same_upd (o := .tup [.str x, .ref D]) nT
          have nD0 : H D = none := by
            cases h : H D with
            | none => rfl
            | some u =>
              have := o3.fr _ _ (k2 _ _ (k1 _ _ h hDp) hDp) nDo hDp
              rw [nD] at this; cases this
          have s35 := s4.trans s5
          exact q _ T (.str x) D _ (.str x) _ sa S [] (I3.same s35) (((Od.keep k1).trans ((Od.keep k2).trans o3 ⟨_, hp2⟩) ⟨_, hp1⟩).trans (Od.same s35) ⟨_, hp3⟩) (by simp) (by simp) (fun t ht => by cases ht) rfl trivial (by show x.length ≤ 1000; omega) rfl (fun n e => by cases e) (s5 _ _ hD) (hs_strs _) nDo nD0 upd_same
    · obtain ⟨xp1, hp1⟩ := I1.hp
      refine ⟨Nat.zero_le _, fun D nD => ?_⟩
      have nDo : ¬ sa.own D := I1.sm.fresh L nD
      have h7D := I1.h7 nD
      have hDp : D ≠ p := (ne_of_none hp1 nD).symm
      have nD0 : H D = none := by
        cases h : H D with
        | none => rfl
        | some u =>
          have := k1 _ _ h hDp
          rw [nD] at this; cases this
      refine ⟨(by show 5 ≤ sizeLine; decide), fun F nF => ?_⟩
      have s2 : Same H1 (upd (upd H1 D (.lst [])) F (.tup five)) := (same_upd nD).trans (same_upd nF)
      have I2 := I1.same s2
      have hF : SqT K (upd (upd H1 D (.lst [])) F (.tup five)) F five := .inl (.inl upd_same)
      have hD2 : (upd (upd H1 D (.lst [])) F (.tup five)) D = some (.lst []) := same_upd nF _ _ upd_same
      have five_at : ∀ (i : Nat) (v : V), five[i]? = some v → ∃ k, fiveD[i]? = some k ∧ v = toV k ∧ keyD k = true := fun i v e => by
        match i, e with
        | 0, e => cases e; exact ⟨_, rfl, rfl, rfl⟩
        | 1, e => cases e; exact ⟨_, rfl, rfl, rfl⟩
        | 2, e => cases e; exact ⟨_, rfl, rfl, rfl⟩
        | 3, e => cases e; exact ⟨_, rfl, rfl, rfl⟩
        | 4, e => cases e; exact ⟨_, rfl, rfl, rfl⟩
        | i + 5, e => cases e
      refine ⟨F, rfl, ⟨_, hF⟩, for_tup (K := K) (a := F) (xs := five) (fun i σ H' => ∃ (ks : List Dv) (yk : Option V), σ = [some (.ref sa.s), some (.ref p), some (.int r), none, none, none, some (.ref D), yk] ∧ LI P w K A a p ns H7 H' sa S ∧ Od p sa sa H1 H' ∧ H' D = some (.lst (ks.map toV)) ∧ SqT K H' F five ∧ List.Sublist ks (fiveD.take i)) ⟨[], none, rfl, I2, Od.same s2, hD2, hF, List.nil_sublist _⟩ (fun i σ H' _ h => by obtain ⟨_, _, _, _, _, _, h, _⟩ := h; exact h) ?_ ?_⟩
      · rintro i v σ H3 hv ⟨ks, yk, rfl, I3, o3, hD, hF3, hsub⟩
        obtain ⟨k, ek, rfl, hk⟩ := five_at i v hv
        obtain ⟨xp3, hp3⟩ := I3.hp
        have tk : fiveD.take (i + 1) = fiveD.take i ++ [k] := by rw [List.take_add_one, ek]; rfl
        refine ⟨_, rfl, a, p, ns, 2, rfl, I3.st, by decide, by decide, fun H4 x4 k4 st4 l4 u4 => ⟨rfl, _, rfl, ?_⟩⟩
        have I4 := I3.draw k4 st4
        have o4 := o3.trans (Od.keep k4) ⟨_, hp3⟩
        have hD4 := k4 _ _ hD hDp
        have hF4 := sqt_keep k4 hp3 hF3
        refine ite_or (fun _ => ?_) fun _ => ?_
        · have hkl : ks.length ≤ 5 := by
            have := hsub.length_le
            rw [List.length_take] at this
            exact Nat.le_trans this (Nat.min_le_right _ _)
          obtain ⟨I5, sv⟩ := I4.lst (ys := ks.map toV ++ [toV k]) hD4 h7D nDo hDp
          refine ⟨_, rfl, .inl ⟨rfl, _, SqL.of hD4⟩, _, rfl, D, _, _, rfl, rfl, hD4, by rw [List.length_map]; exact Nat.lt_of_le_of_lt hkl (by decide), ks ++ [k], _, rfl, I5, o4.put nD, by rw [upd_same, List.map_append]; rfl, ?_, by rw [tk]; exact List.Sublist.append hsub (List.Sublist.refl _)⟩
          rcases hF4 with (h | ⟨ob, h⟩) | h
          · exact .inl (.inl (sv _ _ h fun _ z => by cases z))
          · exact .inl (.inr ⟨ob, sv _ _ h fun _ z => by cases z⟩)
          · exact .inr h
        · exact ⟨ks, _, rfl, I4, o4, hD4, hF4, by rw [tk]; exact hsub.trans (List.sublist_append_left _ _)⟩
      · rintro σ H3 ⟨ks, yk, rfl, I3, o3, hD, hF3, hsub⟩
        obtain ⟨xp3, hp3⟩ := I3.hp
        have hsub : List.Sublist ks fiveD := hsub
        have hnd : ks.Nodup := hsub.nodup (by decide)
        have hkl : ks.length ≤ 5 := hsub.length_le
        have hkey : ∀ k ∈ ks, keyD k = true := fun k h => by
          have : ∀ k ∈ fiveD, keyD k = true := by decide
          exact this k (hsub.mem h)
        refine ⟨_, rfl, _, rfl, D, rfl, ⟨_, SqL.of hD⟩, fun E2 nE => ?_⟩
        have hE2D : D ≠ E2 := ne_of_none hD nE
        refine lc_list (K := K) (a := D) (xs := ks.map toV) (fun i H' => ∃ us, Same H3 H' ∧ H' E2 = some (.lst us) ∧ Prs A K H' us ((ks.take i).map fun k => (k, Dv.int 5))) ⟨[], same_upd nE, upd_same, trivial⟩ (fun i H' _ h => by obtain ⟨_, s, _⟩ := h; exact SqL.of (s _ _ hD)) ?_ ?_
        · rintro i v H4 hv ⟨us, s4, hE, hpr⟩
          rw [List.getElem?_map] at hv
          cases hk : ks[i]? with
          | none => rw [hk] at hv; cases hv
          | some k =>
            rw [hk] at hv
            cases hv
            have hul := hpr.len
            rw [List.length_map, List.length_take] at hul
            refine ⟨rfl, _, rfl, (by show 2 ≤ sizeLine; decide), fun T nT => ?_⟩
            have s5 := same_upd (o := .tup [toV k, .int 5]) nT
            have hE5 := s5 _ _ hE
            have nTE : T ≠ E2 := (ne_of_none hE nT).symm
            refine ⟨us, hE5, Nat.lt_of_le_of_lt (m := 5) (by omega) (by decide), us ++ [.ref T], fun b u e => ?_, upd_same, ?_⟩
            · rw [upd_ne (ne_of_none e nE)]; exact s5 _ _ (s4 _ _ e)
            · rw [List.take_add_one, hk, List.map_append]
              refine Prs.snoc (Prs.keep keep_upd hE5 (Prs.same s5 hpr)) (hkey k (List.mem_of_getElem? hk)) (q := T) (k := toV k) (u := .int 5) ?_ (key_has (hkey k (List.mem_of_getElem? hk))) rfl
              exact sqt_keep keep_upd hE5 (.inl (.inl upd_same))
        · rintro H4 ⟨us, s4, hE, hpr⟩
          rw [List.length_map, List.take_length] at hpr
          have I4 := I3.same s4
          have hE0 : H3 E2 = none := nE
          refine ⟨sa, S, E2, us, _, rfl, I4.sm, SqL.of hE, hpr, by rw [List.length_map]; omega, by omega, fun H5 rr a' ev5 sm5 hr5 => ?_⟩
          have I5 := I4.ev ev5 sm5
          have hD5 := ev5.fr _ _ (s4 _ _ hD) nDo
          refine ⟨_, rfl, (by show 2 ≤ sizeLine; decide), fun T nT => ?_⟩
          have s6 := same_upd (o := .tup [.ref rr, .ref D]) nT
          rw [putAll_self ks _ hnd] at sm5
          have o5 : Od p sa a' H (upd H5 T (.tup [.ref rr, .ref D])) := ((Od.keep k1).trans ((o3.trans (Od.same s4) ⟨_, hp3⟩).trans (Od.ev ev5) (by obtain ⟨x, h⟩ := I4.hp; exact ⟨_, h⟩)) ⟨_, hp1⟩).trans (Od.same s6) (by obtain ⟨x, h⟩ := I5.hp; exact ⟨_, h⟩)
          have I5' := I4.ev ev5 sm5
          have hks : (ks.map fun k => (k, Dv.int 5)).map Prod.fst = ks := by rw [List.map_map]; exact List.map_id' ks
          refine q _ T (.ref rr) D (ks.map toV) (.obj S.things.length) ks a' _ [.table (ks.map fun k => (k, Dv.int 5))] (I5'.same s6) o5 rfl (by simp) (fun t ht => by rw [List.mem_singleton] at ht; subst ht; exact ⟨by show (ks.map _).length ≤ 10; rw [List.length_map]; omega, rfl⟩) (hr5.sv (Same.sv s6)) (by show S.things.length < (S.things ++ [_]).length; simp) trivial (by show itemsT (S.things ++ [Th.table _])[S.things.length]? = some ks; rw [List.getElem?_append_right (Nat.le_refl _), Nat.sub_self]; show some ((ks.map fun k => (k, Dv.int 5)).map Prod.fst) = some ks; rw [hks]) (fun n e => by cases e; exact ⟨rfl, rfl⟩) (s6 _ _ hD5) ?_ (ev5.nin (s4 _ _ hD) nDo) nD0 upd_same
          have : ∀ {l : List Dv}, (∀ k ∈ l, keyD k = true) → Hs A (upd H5 T (.tup [.ref rr, .ref D])) (l.map toV) l := by
            intro l
            induction l with
            | nil => intro _; trivial
            | cons k l ih => intro h; exact ⟨key_has (h k (by simp)), ih fun k' h' => h k' (by simp [h'])⟩
          exact this hkey
end
end My
namespace My
open PySem L2 SX XT XS XE XD XL
open C8 (pss_cut tCut cutS_slice pe_gc)
theorem op_mul_str {X : Cx} : OpR X (binaryOp .Mult) (fun x y H Q => ∃ z n, x = .str z ∧ y = .int n ∧ MulOk z n ∧ Q (.str (Txt.mul z n)) H) := by
  intro pins s σ H x y v u Q I rx ry h
  obtain ⟨z, n, rfl, rfl, hz, q⟩ := h
  obtain ⟨t, rfl⟩ := rx
  obtain ⟨t', rfl⟩ := ry
  exact SB.mul hz (fun t' tk => ⟨.str (Txt.mul z n), H, I.tok _, ⟨_, rfl⟩, q⟩)
section
variable {P : Program} {w : World} {K : PySem.W.Frag} {mg : Str → Option Value} {base : Heap} {A : Ads}
def spSame (K : PySem.W.Frag) (A : Ads) : Sp := fun vs H Q _ => ∃ (l1 l2 : Addr) (us ws : List V) (ds es : List Dv), vs = [.ref l1, .ref l2] ∧ SqL K H l1 us ∧ SqL K H l2 ws ∧ Hs A H us ds ∧ Hs A H ws es ∧ es.length ≤ 2000 ∧ Q (.bl (decide (ds = es))) H
theorem ok_law_same (L : Lib P K mg A) : FnOk P w K mg base CX0 2 L.law_same.f L.law_same.fd ["told", "due"] (spSame K A) := by
  refine L.law_same.F.ok sc_law_same (fun vs H Q E h => ?_) (fun cdv A' outer s H vs Q E hr h => ?_)
  · obtain ⟨l1, l2, us, ws, ds, es, rfl, _⟩ := h
    rfl
  · obtain ⟨l1, l2, us, ws, ds, es, rfl, h1, h2, h3, h4, hn, q⟩ := h
    have e3 := h3.len
    have e4 := h4.len
    refine ⟨_, (pss_cons (ps_if (pt_cmpR op_ne (pe_callB call_len_seq (by rfl) L.z_len PySem.boot_len (pa_cons (pv 0) pa_nil)) (pe_callB call_len_seq (by rfl) L.z_len PySem.boot_len (pa_cons (pv 1) pa_nil)) (nomark _))
        (pss_one (ps_ret pe_bl))
        pss_nil)
      (pss_cons (ps_for PassesOwn.never rfl (pi_range1 (by rfl) L.z_range (pa_cons (pe_callB call_len_seq (by rfl) L.z_len PySem.boot_len (pa_cons (pv 1) pa_nil)) pa_nil)) (pg_name (i := 2) sc_law_same.nd rfl (.inl rfl))
        (pss_one (ps_if (PW.pt (pw_or (pt_cmpR op_ne (pe_callB call_isi (by rfl) L.z_isinstance (by decide +kernel) (pa_cons (pe_ix ix_list (pv 0) (pv 2) (fun _ _ => rfl)) (pa_cons (pe_bltn (v := .ty "bool") (by rfl) L.z_bool (by decide +kernel) rfl) pa_nil))) (pe_callB call_isi (by rfl) L.z_isinstance (by decide +kernel) (pa_cons (pe_ix ix_list (pv 1) (pv 2) (fun _ _ => rfl)) (pa_cons (pe_bltn (v := .ty "bool") (by rfl) L.z_bool (by decide +kernel) rfl) pa_nil))) (nomark _)) (pw_or1 (pt_not (pt_cmpR (op_eqM L (hr.mono (by omega))) (pe_ix ix_list (pv 0) (pv 2) (fun _ _ => rfl)) (pe_ix ix_list (pv 1) (pv 2) (fun _ _ => rfl)) (nomark _))))))
        (pss_one (ps_ret pe_bl))
        pss_nil)))
      (pss_one (ps_ret pe_bl)))), ?_⟩
    refine ⟨_, rfl, l1, us, rfl, .inl h1, _, rfl, l2, ws, rfl, .inl h2, rfl, _, rfl, ite_or (fun e => ?_) fun e => ?_⟩
    · have : ¬ ds = es := fun z => by
        rw [e3, e4, z] at e
        simp at e
      rw [decide_eq_false this] at q
      exact q
    have hl : ds.length = es.length := by
      have e := e
      rw [e3, e4] at e
      simp at e
      omega
    refine ⟨_, rfl, l2, ws, rfl, .inl h2, _, rfl, by omega, by omega, for_range (n := ws.length) (fun i σ H' => ∃ yk : Option V, σ = [some (.ref l1), some (.ref l2), yk] ∧ H' = H ∧ ∀ j, j < i → ds[j]? = es[j]?) ⟨none, rfl, rfl, fun j h => absurd h (by omega)⟩ ?_ ?_⟩
    · rintro i σ H' hi ⟨yk, rfl, rfl, hj⟩
      rw [Int.zero_add]
      obtain ⟨d, hd⟩ : ∃ d, ds[i]? = some d := ⟨_, List.getElem?_eq_getElem (by omega)⟩
      obtain ⟨e', he⟩ : ∃ d, es[i]? = some d := ⟨_, List.getElem?_eq_getElem (by omega)⟩
      obtain ⟨u, hu, hud⟩ := h3.at hd
      obtain ⟨z, hz, hzd⟩ := h4.at he
      refine ⟨_, rfl, _, rfl, l1, _, _, _, rfl, rfl, h1, atI_nat hu, _, .ty "bool", _, _, _, rfl, .ty _, has_ty L hud, kit_bool L d, _, rfl, _, rfl, l2, _, _, _, rfl, rfl, h2, atI_nat hz, _, .ty "bool", _, _, _, rfl, .ty _, has_ty L hzd, kit_bool L e', rfl, _, rfl, ite_or (fun c => ?_) fun c => ?_⟩
      · have : ¬ ds = es := fun x => by
          rw [x, he] at hd
          cases hd
          simp at c
        rw [decide_eq_false this] at q
        exact q
      have hb : dB d = dB e' := by simpa using c
      refine ⟨_, rfl, _, rfl, l1, _, _, _, rfl, rfl, h1, atI_nat hu, _, rfl, _, rfl, l2, _, _, _, rfl, rfl, h2, atI_nat hz, d, e', hud, hzd, hb, _, rfl, ?_⟩
      by_cases hde : d = e'
      · rw [decide_eq_true hde]
        refine iteF ⟨_, rfl, rfl, fun j hj' => ?_⟩
        by_cases hji : j < i
        · exact hj j hji
        · obtain rfl : j = i := by omega
          rw [hd, he, hde]
      · rw [decide_eq_false hde]
        have : ¬ ds = es := fun x => by
          rw [x, he] at hd
          cases hd
          exact hde rfl
        rw [decide_eq_false this] at q
        exact iteT q
    · rintro σ H' ⟨yk, rfl, rfl, hj⟩
      have : ds = es := by
        refine List.ext_getElem? fun j => ?_
        by_cases h : j < ws.length
        · exact hj j h
        · rw [List.getElem?_eq_none (by omega), List.getElem?_eq_none (by omega)]
      rw [decide_eq_true this] at q
      exact q
/-- a thing's part was changed -/
theorem SM.setK {H H' : Hp} {a : Sa} {S : St} {i : Nat} {x m : Addr} {d : Th} (h : SM P w A H a S) (hX : a.X[i]? = some x) (hM : a.M[i]? = some m) (kp : Keep m H H') (k : Vk A H H') (hd : ThAt P w A H' x m d) :
    SM P w A H' a { S with things := S.things.set i d } := by
  have mm := List.mem_of_getElem? hM
  have hm3 : m ≠ a.t ∧ m ≠ a.o ∧ m ≠ a.l := by
    have := h.nd
    simp only [List.nodup_cons, List.mem_cons, not_or] at this
    exact ⟨fun z => this.1.2.2 (z ▸ mm), fun z => this.2.1.2 (z ▸ mm), fun z => this.2.2.1 (z ▸ mm)⟩
  have hMn : a.M.Nodup := by
    have := h.nd
    simp only [List.nodup_cons] at this
    exact this.2.2.2
  obtain ⟨tm, xm, hmt⟩ := h.ms mm
  obtain ⟨um, hum, hni, _⟩ := hmt.m
  have nins : ∀ {b : Addr} {C dx : Addr} {fs : List (Str × V)}, H b = some (.ins C dx fs) → b ≠ m := fun e z => by
    rw [z, hum] at e
    exact hni _ _ _ (Option.some.inj e)
  obtain ⟨dx, e⟩ := h.s_
  refine ⟨⟨dx, kp _ _ e (nins e)⟩, kp _ _ h.t_ hm3.1.symm, kp _ _ h.o_ hm3.2.1.symm, kp _ _ h.l_ hm3.2.2.symm, by rw [List.length_set]; exact h.lx, by rw [List.length_set]; exact h.lm, ?_, h.nd, h.nx⟩
  intro j x' m' d' e1 e2 e3
  by_cases hij : i = j
  · subst hij
    rw [hX] at e1
    rw [hM] at e2
    cases e1
    cases e2
    have hl := (List.getElem?_eq_some_iff.mp e3).1
    rw [List.length_set] at hl
    rw [List.getElem?_set_self hl] at e3
    cases e3
    exact hd
  · rw [List.getElem?_set_ne hij] at e3
    have t := h.th j x' m' d' e1 e2 e3
    refine t.imp k (fun u' e => ?_) (fun u' e => ?_)
    · obtain ⟨dx', fs', ex⟩ := t.x
      exact kp _ _ e (nins ex)
    · have hne : m' ≠ m := fun z => by
        rw [z] at e2
        exact hij (nodup_get hMn hM e2)
      exact kp _ _ e hne
/-- of a part that no value is: values and tuples stay -/
theorem vk_part {H H' : Hp} {m : Addr} {u : HO} (hu : H m = some u) (n1 : ∀ C dx fs, u ≠ .ins C dx fs) (n2 : ∀ xs, u ≠ .tup xs) (k : Keep m H H') : Vk A H H' := ⟨fun v d h => by
  cases d with
  | obj n =>
    obtain ⟨b, dx, rfl, e⟩ := h
    exact ⟨b, dx, rfl, k _ _ e fun z => by rw [z, hu] at e; exact n1 _ _ _ (Option.some.inj e)⟩
  | bi n =>
    obtain ⟨b, dx, rfl, e⟩ := h
    exact ⟨b, dx, rfl, k _ _ e fun z => by rw [z, hu] at e; exact n1 _ _ _ (Option.some.inj e)⟩
  | _ => exact h, fun q xs e => k _ _ e fun z => by rw [z, hu] at e; exact n2 _ (Option.some.inj e)⟩
theorem ev_part {H H' : Hp} {a : Sa} {m : Addr} (hm : m ∈ a.M) (k : Keep m H H') : Ev a a H H' := ⟨fun b u e n => k _ _ e fun z => n (.inr (.inr (.inr (.inr (.inr (by rw [z]; exact hm)))))), rfl, fun _ z => .inl z⟩
def srcOk (S : St) : Dv → Prop
  | .obj n => ∃ t, S.things[n]? = some t ∧ (tP t || tT t) = true ∧ szT t ≤ 900
  | _ => True
def spSpoilt (P : Program) (w : World) (K : PySem.W.Frag) (A : Ads) : Sp := fun vs H Q _ => ∃ (a p : Addr) (ns : List Int) (H7 : Hp) (sa : Sa) (S : St) (v : V) (d : Dv), vs = [.ref sa.s, v, .ref p] ∧ LI P w K A a p ns H7 H sa S ∧ Has A H v d ∧ srcOk S d ∧
  ∀ H' S', LI P w K A a p ns H7 H' sa S' → Od p sa sa H H' → Vk A H H' → (S' = S ∨ ∃ n t t', d = .obj n ∧ S.things[n]? = some t ∧ S' = { S with things := S.things.set n t' } ∧ (tP t' || tT t') = true ∧ szT t' ≤ szT t + 1) → Q .non H'
theorem new_ok : ∀ r : Nat, r < 3 → MulOk "new" (1 + (r : Int)) ∧ (Txt.mul "new" (1 + (r : Int))).length ≤ 1000 := fun r h => by
  match r, h with
  | 0, _ => unfold MulOk; decide +kernel
  | 1, _ => unfold MulOk; decide +kernel
  | 2, _ => unfold MulOk; decide +kernel
theorem ok_law_spoilt (L : Lib P K mg A) : FnOk P w K mg base CX0 3 L.law_spoilt.f L.law_spoilt.fd ["store", "value", "state"] (spSpoilt P w K A) := by
  have G_law_draw : FnOk P w K mg base CX0 2 L.law_draw.f L.law_draw.fd ["state", "many"] (spDraw K) := ok_law_draw L
  have G_Table_put : FnOk P w K mg base CX0 2 L.Table_put.f L.Table_put.fd ["self", "key", "value"] (spTPut P w A) := ok_Table_put L
  refine L.law_spoilt.F.ok sc_law_spoilt (fun vs H Q E h => ?_) (fun cdv A' outer s H vs Q E hr h => ?_)
  · obtain ⟨a, p, ns, H7, sa, S, v, d, rfl, _⟩ := h
    rfl
  · obtain ⟨a, p, ns, H7, sa, S, v, d, rfl, I, hv, hs, q⟩ := h
    refine ⟨_, (pss_cons (ps_if (pt_not (pt_val (pe_callB call_isi (by rfl) L.z_isinstance (by decide +kernel) (pa_cons (pv 1) (pa_cons (pe_gc (v := .ref A.Ref) (by rfl) ⟨_, L.c_Ref.g, rfl⟩) pa_nil)))))
        (pss_one ps_retN)
        pss_nil)
      (pss_cons (ps_set (i := 3) sc_law_spoilt.nd rfl (.inl rfl) (pe_ix ix_list (pe_fld (pv 0) rfl) (pe_fld (pv 1) rfl) (fun _ _ => rfl)))
      (pss_one (ps_if (pt_val (pe_callB call_isi (by rfl) L.z_isinstance (by decide +kernel) (pa_cons (pv 3) (pa_cons (pe_gc (v := .ref A.Parts) (by rfl) ⟨_, L.c_Parts.g, rfl⟩) pa_nil))))
        (pss_cons (ps_expr (pe_bm PySem.F.plainAttrs_list PySem.F.slot_list_append PySem.F.type_list_append mt_append (pe_fld (pv 3) rfl) (pa_cons pe_int pa_nil)))
      (pss_one (ps_expr (pe_bm0 PySem.F.plainAttrs_list PySem.F.slot_list_reverse PySem.F.type_list_reverse mt_reverse (pe_fld (pv 3) rfl)))))
        (pss_one (ps_expr (pe_meth (pv 3) L.c_Table.cl L.Table_put.m G_Table_put (hr.mono (by omega)) L.Table_put.b .nil pass0 (pa_cons (pe_op op_mul_str pe_str (pe_op op_add pe_int (pe_call G_law_draw (hr.mono (by omega)) (by rfl) L.law_draw.g L.law_draw.F.kp L.law_draw.b .nil pass0 (pa_cons (pv 2) (pa_cons pe_int pa_nil))))) (pa_cons pe_int pa_nil))))))))), ?_⟩
    refine ⟨_, rfl, v, .ref A.Ref, _, .ref A.Ref, _, rfl, .own _, has_ty L hv, kit_R L d, _, rfl, ite_or (fun e => ?_) fun e => ?_⟩
    · exact q H S I (Od.same fun _ _ e => e) Vk.rfl' (.inl rfl)
    cases d with
    | obj n =>
      obtain ⟨t, ht, hpt, hsz⟩ := hs
      obtain ⟨dsx, hs0⟩ := I.sm.s_
      obtain ⟨x, m, hx, hm, hth⟩ := I.sm.get ht
      obtain ⟨b, db, rfl, hb⟩ := hv
      have mm := List.mem_of_getElem? hm
      refine ⟨_, rfl, sa.s, A.Store, dsx, _, _, rfl, hs0, L.c_Store.cl, L.n_Store_things, st_things _ _ _ _, _, rfl, b, A.Ref, db, _, _, rfl, hb, L.c_Ref.cl, L.n_Ref_number, lk_hit, sa.t, _, _, .ref x, rfl, rfl, SqL.of I.sm.t_, atI_nat (by rw [List.getElem?_map, hx]; rfl), ?_⟩
      refine ⟨_, rfl, .ref x, .ref A.Parts, _, .ref A.Parts, _, rfl, .own _, th_ty L hth, kit_P L t, _, rfl, ite_or (fun e => ?_) fun e => ?_⟩
      · cases t with
        | parts ds =>
          obtain ⟨dx, us, e1, e2, e3⟩ := id hth
          have hul := e3.len
          have hds : ds.length ≤ 900 := hsz
          have nxm : x ≠ m := fun z => by rw [z, e2] at e1; cases e1
          refine ⟨_, rfl, x, A.Parts, dx, _, .ref m, rfl, e1, L.c_Parts.cl, L.n_Parts_held, lk_hit, .inl ⟨rfl, _, SqL.of e2⟩, m, us, _, rfl, rfl, e2, Nat.lt_of_le_of_lt (m := 900) (by omega) (by decide), ?_⟩
          refine ⟨_, rfl, x, A.Parts, dx, _, .ref m, rfl, by rw [upd_ne nxm]; exact e1, L.c_Parts.cl, L.n_Parts_held, lk_hit, .inl ⟨rfl, _, SqL.of upd_same⟩, m, _, rfl, rfl, upd_same, ?_⟩
          have kp : Keep m H (upd (upd H m (.lst (us ++ [V.int 9]))) m (.lst (us ++ [V.int 9]).reverse)) := keep_upd.trans keep_upd
          have vk : Vk A H _ := vk_part e2 nofun nofun kp
          have hs' := I.sm.setK (d := .parts (ds ++ [Dv.int 9]).reverse) hx hm kp vk ⟨dx, _, kp _ _ e1 nxm, upd_same, Hs.rev (Hs.app (e3.imp vk.v) (show Hs A _ [V.int 9] [Dv.int 9] from ⟨rfl, trivial⟩))⟩
          have ev := ev_part mm kp
          exact q _ _ (I.ev ev hs') (Od.ev ev) vk (.inr ⟨n, _, .parts (ds ++ [Dv.int 9]).reverse, rfl, ht, rfl, rfl, by show (ds ++ [Dv.int 9]).reverse.length ≤ ds.length + 1; simp⟩)
        | _ => cases e
      · cases t with
        | table es =>
          obtain ⟨ents, hT, hE, hnd, hle⟩ := id hth
          obtain ⟨⟨dx, hx1⟩, hd, _⟩ := id hT
          have hes : es.length ≤ 900 := hsz
          have hel := hE.len
          have hx1' := hx1
          refine ⟨_, rfl, x, dx, _, rfl, hx1, tab_none (by decide +kernel), _, rfl, a, p, ns, 3, rfl, I.st, by decide, by decide, fun H1 r k1 st1 r0 r3 => ?_⟩
          obtain ⟨r', rfl⟩ : ∃ r' : Nat, r = (r' : Int) := ⟨r.toNat, by omega⟩
          obtain ⟨ok1, ok2⟩ := new_ok r' (by omega)
          have I1 := I.draw k1 st1
          obtain ⟨xp, hp⟩ := I.hp
          have hxm : ∀ y m', sa.X[n]? = some y → sa.M[n]? = some m' → y = x ∧ m' = m := fun y m' a1 a2 => by
            rw [hx] at a1; rw [hm] at a2; cases a1; cases a2; exact ⟨rfl, rfl⟩
          obtain ⟨y, m', a1, a2, hth1⟩ := I1.sm.get ht
          obtain ⟨rfl, rfl⟩ := hxm y m' a1 a2
          obtain ⟨ents1, hT1, hE1, _, _⟩ := hth1
          have hel1 := hE1.len
          refine ⟨_, _, rfl, rfl, "new", _, rfl, rfl, ok1, y, m', ents1, .str (Txt.mul "new" (1 + (r' : Int))), .int 1, rfl, hT1, rfl, by omega, fun H2 b2 q2 k2 hT2 hq2 nq2 => ?_⟩
          have vk2 : Vk A H1 H2 := vk_part hT1.tab.at_ nofun nofun k2
          have hE2 := (hE1.imp vk2.v vk2.t).put (k := .str (Txt.mul "new" (1 + (r' : Int)))) (v := .int 1) (b := b2) rfl hq2 rfl
          have hs' := I1.sm.setK (d := .table (putE es (.str (Txt.mul "new" (1 + (r' : Int)))) (.int 1))) a1 a2 k2 vk2 ⟨_, hT2, hE2, putE_nd hnd, by have := (putE_len (es := es) (k := .str (Txt.mul "new" (1 + (r' : Int)))) (v := .int 1)).1; omega⟩
          have ev := ev_part mm k2
          exact q _ _ (I1.ev ev hs') ((Od.keep k1).trans (Od.ev ev) (by obtain ⟨z, h⟩ := I1.hp; exact ⟨_, h⟩)) ((Sv.vk (I.sv k1)).trans vk2) (.inr ⟨n, _, _, rfl, ht, rfl, rfl, (putE_len (es := es)).1⟩)
        | parts ds => cases e
        | _ => cases hpt
    | _ => cases e
end
end My
namespace My
open PySem L2 SX XT XS XE XD XL
open C8 (pss_cut tCut cutS_slice pe_gc)
section
variable {P : Program} {w : World} {K : PySem.W.Frag} {mg : Str → Option Value} {base : Heap} {A : Ads}
def spRefd (P : Program) (w : World) (A : Ads) : Sp := fun vs H Q _ => ∃ (sa : Sa) (S : St) (ms : List (Str × Dv)), vs = [.ref sa.s] ∧ SM P w A H sa S ∧ S.things[0]? = some (.kin "Error" .non ms) ∧ S.things.length < 100000 ∧ ∀ H', Q (.bl true) H'
theorem ok_law_refused (L : Lib P K mg A) : FnOk P w K mg base CX0 5 L.law_refused.f L.law_refused.fd ["store"] (spRefd P w A) := by
  have G_make_cursor : FnOk P w K mg base (L2.CX P w) 4 L.make_cursor.f L.make_cursor.fd ["store", "x"] (spMC P w A) := ok_make_cursor L
  have G_Ref_init : FnOk P w K mg base CX0 1 L.Ref_init.f L.Ref_init.fd ["self", "number"] (spI1 A.Ref "number") := ok_Ref_init L
  have G_Builtin_init : FnOk P w K mg base CX0 1 L.Builtin_init.f L.Builtin_init.fd ["self", "name"] (spI1 A.Builtin "name") := ok_Builtin_init L
  refine L.law_refused.F.ok sc_law_refused (fun vs H Q E h => ?_) (fun cdv A' outer s H vs Q E hr h => ?_)
  · obtain ⟨sa, S, ms, rfl, _⟩ := h
    rfl
  · obtain ⟨sa, S, ms, rfl, hS, h0, hn, q⟩ := h
    have nd := sc_law_refused.nd
    refine ⟨_, (pss_cons (ps_set (i := 1) sc_law_refused.nd rfl (.inl rfl) (pe_callB call_len_seq (by rfl) L.z_len PySem.boot_len (pa_cons (pe_fld (pv 0) rfl) pa_nil)))
      (pss_cons (ps_for PassesOwn.never rfl (pi_tup (pe_tup (pa_cons (pe_tup (pa_cons pe_non (pa_cons pe_str pa_nil))) (pa_cons (pe_tup (pa_cons pe_bl (pa_cons pe_str pa_nil))) (pa_cons (pe_tup (pa_cons pe_int (pa_cons pe_str pa_nil))) (pa_cons (pe_tup (pa_cons (pe_make L.Ref_init.m G_Ref_init (hr.mono (by omega)) (by rfl) L.c_Ref.g L.Ref_init.b .nil pass0 (pa_cons pe_int pa_nil)) (pa_cons pe_str pa_nil))) (pa_cons (pe_tup (pa_cons (pe_make L.Builtin_init.m G_Builtin_init (hr.mono (by omega)) (by rfl) L.c_Builtin.g L.Builtin_init.b .nil pass0 (pa_cons pe_str pa_nil)) (pa_cons pe_str pa_nil))) pa_nil))))))) (pg_tup (by rfl) (pgs_cons (pg_name (i := 2) sc_law_refused.nd rfl (.inl rfl)) (pgs_cons (pg_name (i := 3) sc_law_refused.nd rfl (.inl rfl)) pgs_nil)))
        (pss_cons (ps_set (i := 4) sc_law_refused.nd rfl (.inl rfl) pe_non)
      (pss_cons (ps_try_as (i := 5) (Wout := fun _ _ _ _ => False) rfl rfl nd rfl rfl ⟨rfl, by decide, .inl L.x_ScriptError.g⟩ takes0 (fun W pn xe tk _ => pss_one (ps_expr (by exact (pe_callS G_make_cursor (hr.mono (by omega)) (by rfl) L.make_cursor.g L.make_cursor.F.kp L.make_cursor.b (fun σ => passAt tk σ) (by exact (pa_cons (pv 0) (pa_cons (pv 2) pa_nil))))))) (fun a oe cls d pn hz hf => pss_one (ps_set (i := 4) nd rfl (.inl rfl) (pe_tup (pa_cons (pe_xf L.x_ScriptError.T.xf L.x_ScriptError.T.n1 hz hf (pv 5)) (pa_cons (pe_xf L.x_ScriptError.T.xf L.x_ScriptError.T.n2 hz hf (pv 5)) pa_nil))))))
      (pss_one (ps_if (pt_cmpR (op_neD (units64 hr)) (pv 4) (pe_tup (pa_cons pe_str (pa_cons (pe_op op_add_str pe_str (pv 3)) pa_nil))) (nomark _))
        (pss_one (ps_ret pe_bl))
        pss_nil)))))
      (pss_one (ps_ret (pe_cmpR op_eq (pe_callB call_len_seq (by rfl) L.z_len PySem.boot_len (pa_cons (pe_fld (pv 0) rfl) pa_nil)) (pv 1) (nomark _)))))), ?_⟩
    obtain ⟨dsx, hs0⟩ := hS.s_
    refine ⟨_, rfl, sa.s, A.Store, dsx, _, _, rfl, hs0, L.c_Store.cl, L.n_Store_things, st_things _ _ _ _, sa.t, _, rfl, .inl (SqL.of hS.t_), ?_⟩
    have hXl := hS.lx
    rw [List.length_map, hXl]
    have hsz : ∀ n : Nat, n ≤ 1000 → n ≤ sizeLine := fun n h => Nat.le_trans h (by decide)
    -- the five pairs
    refine ⟨hsz 2 (by decide), fun T1 n1 => ?_⟩
    have s1 := same_upd (o := .tup [.non, .str "null"]) n1
    refine ⟨hsz 2 (by decide), fun T2 n2 => ?_⟩
    have s2 := same_upd (o := .tup [.bl true, .str "boolean"]) n2
    refine ⟨hsz 2 (by decide), fun T3 n3 => ?_⟩
    have s3 := same_upd (o := .tup [.int 7, .str "integer"]) n3
    intro r dr nr ndr ndrr
    refine ⟨r, dr, _, rfl, upd_same, fun H4 k4 hr4 => ⟨rfl, ?_⟩⟩
    have s4 := Same.made nr ndr k4
    refine ⟨hsz 2 (by decide), fun T4 n4 => ?_⟩
    have s5 := same_upd (o := .tup [.ref r, .str "class"]) n4
    intro b db nb ndb ndbb
    refine ⟨b, db, _, rfl, upd_same, fun H6 k6 hb6 => ⟨rfl, ?_⟩⟩
    have s6 := Same.made nb ndb k6
    refine ⟨hsz 2 (by decide), fun T5 n5 => ?_⟩
    have s7 := same_upd (o := .tup [.ref b, .str "function"]) n5
    refine ⟨hsz 5 (by decide), fun T n8 => ?_⟩
    have s8 := same_upd (o := .tup [.ref T1, .ref T2, .ref T3, .ref T4, .ref T5]) n8
    have s48 := s5.trans (s6.trans (s7.trans s8))
    have s38 := s4.trans s48
    have s28 := s3.trans s38
    have s18 := s2.trans s28
    have s08 := s1.trans s18
    have hr8 := s48 _ _ hr4
    have hb8 := s7.trans s8 _ _ hb6
    generalize hH8 : upd (upd H6 T5 (.tup [.ref b, .str "function"])) T (.tup [.ref T1, .ref T2, .ref T3, .ref T4, .ref T5]) = H8 at *
    have good : ∀ x ∈ [V.ref T1, .ref T2, .ref T3, .ref T4, .ref T5], ∃ t v d, x = .ref t ∧ H8 t = some (.tup [v, .str (kindD S d)]) ∧ Has A H8 v d ∧ okV S d ∧ txtOk d ∧ itemsD S d = none ∧ (kindD S d).length ≤ 100 ∧ SeqAt.shaped (.tuple [.str "KindError", .str ("cannot go through " ++ kindD S d)]) = true := by
      intro x hx
      simp only [List.mem_cons, List.not_mem_nil, or_false] at hx
      rcases hx with rfl | rfl | rfl | rfl | rfl
      · exact ⟨T1, .non, .non, rfl, s18 _ _ upd_same, rfl, trivial, trivial, rfl, by show (("null" : Str)).length ≤ 100; decide +kernel, by show SeqAt.shaped (.tuple [.str "KindError", .str ("cannot go through " ++ ("null" : Str))]) = true; decide +kernel⟩
      · exact ⟨T2, .bl true, .bl true, rfl, s28 _ _ upd_same, rfl, trivial, trivial, rfl, by show (("boolean" : Str)).length ≤ 100; decide +kernel, by show SeqAt.shaped (.tuple [.str "KindError", .str ("cannot go through " ++ ("boolean" : Str))]) = true; decide +kernel⟩
      · exact ⟨T3, .int 7, .int 7, rfl, s38 _ _ upd_same, rfl, trivial, trivial, rfl, by show (("integer" : Str)).length ≤ 100; decide +kernel, by show SeqAt.shaped (.tuple [.str "KindError", .str ("cannot go through " ++ ("integer" : Str))]) = true; decide +kernel⟩
      · have e : kindD S (.obj 0) = "class" := by
          unfold kindD
          simp only [h0]
          rfl
        refine ⟨T4, .ref r, .obj 0, rfl, by rw [e]; exact (s6.trans (s7.trans s8)) _ _ upd_same, ⟨r, dr, rfl, hr8⟩, ?_, trivial, ?_, by rw [e]; decide +kernel, by rw [e]; decide +kernel⟩
        · show 0 < S.things.length
          exact (List.getElem?_eq_some_iff.mp h0).1
        · show itemsT S.things[0]? = none
          rw [h0]; rfl
      · exact ⟨T5, .ref b, .bi "abs", rfl, s8 _ _ upd_same, ⟨b, db, rfl, hb8⟩, trivial, trivial, rfl, by show (("function" : Str)).length ≤ 100; decide +kernel, by show SeqAt.shaped (.tuple [.str "KindError", .str ("cannot go through " ++ ("function" : Str))]) = true; decide +kernel⟩
    refine ⟨T, rfl, ⟨_, SqT.of (by rw [← hH8]; exact upd_same)⟩, for_tup (K := K) (a := T) (xs := [V.ref T1, .ref T2, .ref T3, .ref T4, .ref T5]) (fun i σ H' => ∃ y2 y3 y4 : Option V, σ = [some (.ref sa.s), some (.int (S.things.length : Nat)), y2, y3, y4, none] ∧ Same H8 H') ⟨none, none, none, rfl, fun _ _ e => e⟩ (fun i σ H' _ h => by obtain ⟨_, _, _, _, s'⟩ := h; exact SqT.of (s' _ _ (by rw [← hH8]; exact upd_same))) ?_ ?_⟩
    · rintro i x σ H9 hx ⟨y2, y3, y4, rfl, s9⟩
      obtain ⟨t, v, d, rfl, ht, hv, ok, tk, it, kl, sh⟩ := good x (List.mem_of_getElem? hx)
      have sm9 := hS.same (s08.trans s9)
      refine ⟨t, _, rfl, SqT.of (s9 _ _ ht), rfl, _, _, rfl, _, _, rfl, rfl, ?_⟩
      refine ⟨_, rfl, _, rfl, sa, S, v, d, rfl, sm9, hv.sv (Same.sv s9), ok, tk, hn, ?_, ?_⟩
      · intro ds e
        rw [it] at e
        cases e
      intro _ H10 s10 dd hd
      refine ⟨true, L.x_ScriptError.T.te, fun _ a0 _ => ?_, fun q => Bool.noConfusion q⟩
      have xd : upd H10 dd (.xd [("message", .str ("cannot go through " ++ kindD S d)), ("kind", .str "KindError")]) dd = some (.xd [("message", .str ("cannot go through " ++ kindD S d)), ("kind", .str "KindError")]) := upd_same
      refine ⟨_, rfl, rfl, rfl, dd, _, _, rfl, xd, (by rw [lk_skip (by decide +kernel)]; exact lk_hit), _, rfl, rfl, rfl, dd, _, _, rfl, xd, lk_hit, hsz 2 (by decide), fun q1 nq1 => ?_⟩
      have s11 := s10.trans ((same_upd (o := .xd [("message", .str ("cannot go through " ++ kindD S d)), ("kind", .str "KindError")]) hd).trans (same_upd (o := .tup [.str "KindError", .str ("cannot go through " ++ kindD S d)]) nq1))
      refine ⟨_, rfl, ?_⟩
      refine ⟨_, rfl, _, _, rfl, rfl, by have : (("cannot go through " : Str)).length = 18 := by decide +kernel
                                         rw [this]; exact hsz _ (by omega), hsz 2 (by decide), fun q2 nq2 => ?_⟩
      have dp : ∀ q : Addr, upd (upd (upd H10 dd (.xd [("message", .str ("cannot go through " ++ kindD S d)), ("kind", .str "KindError")])) q1 (.tup [.str "KindError", .str ("cannot go through " ++ kindD S d)])) q2 (.tup [.str "KindError", .str ("cannot go through " ++ kindD S d)]) q = some (.tup [.str "KindError", .str ("cannot go through " ++ kindD S d)]) → Dp K (upd (upd (upd H10 dd (.xd [("message", .str ("cannot go through " ++ kindD S d)), ("kind", .str "KindError")])) q1 (.tup [.str "KindError", .str ("cannot go through " ++ kindD S d)])) q2 (.tup [.str "KindError", .str ("cannot go through " ++ kindD S d)])) (.ref q) (.tuple [.str "KindError", .str ("cannot go through " ++ kindD S d)]) := fun q e => .tup (SqT.of e) (.cons (.str _) (.cons (.str _) .nil))
      refine ⟨_, _, dp q1 (by rw [upd_ne (ne_of_none upd_same nq2)]; exact upd_same), dp q2 upd_same, sh, sh, _, rfl, ?_⟩
      have e : PyData.eqv (.tuple [.str "KindError", .str ("cannot go through " ++ kindD S d)]) (.tuple [.str "KindError", .str ("cannot go through " ++ kindD S d)]) = true := by
        exact SeqAt.eqv_refl _ (SeqAt.canLay_of_shaped sh)
      rw [e]
      refine iteF ⟨_, _, _, rfl, s9.trans (s11.trans (same_upd nq2))⟩
    · rintro σ H9 ⟨y2, y3, y4, rfl, s9⟩
      have sm9 := hS.same (s08.trans s9)
      obtain ⟨dsx9, hs9⟩ := sm9.s_
      refine ⟨_, rfl, sa.s, A.Store, dsx9, _, _, rfl, hs9, L.c_Store.cl, L.n_Store_things, st_things _ _ _ _, sa.t, _, rfl, .inl (SqL.of sm9.t_), _, rfl, ?_⟩
      rw [List.length_map, hXl]
      refine ⟨rfl, ?_⟩
      rw [decide_eq_true rfl]
      exact q H9
end
end My
namespace My
open PySem L2 SX XT XS XE XD XL
open C8 (pss_cut tCut cutS_slice pe_gc)
section
variable {P : Program} {w : World} {K : PySem.W.Frag} {mg : Str → Option Value} {base : Heap} {A : Ads}
variable {a p : Addr} {ns : List Int} {H7 H H' : Hp} {sa sa' : Sa} {S S' : St}
def srcB (S : St) (B : Nat) : Dv → Prop
  | .obj n => ∃ t, S.things[n]? = some t ∧ (tP t || tT t) = true ∧ szT t ≤ B
  | _ => True
theorem cut_to1 (us : List V) : cutV us none (some 1) = us.take 1 := by
  unfold cutV
  have e1 := HT.sIx_nat us.length us.length 1
  rw [show ((1 : Nat) : Int) = 1 from rfl] at e1
  rw [HT.sIx_none, e1]
  cases us with
  | nil => rfl
  | cons u us => simp
theorem cut_from1 (us : List V) : cutV us (some 1) none = us.drop 1 := by
  unfold cutV
  have e1 := HT.sIx_nat us.length 0 1
  rw [show ((1 : Nat) : Int) = 1 from rfl] at e1
  rw [HT.sIx_none, e1]
  cases us with
  | nil => rfl
  | cons u us => simp
theorem srcB.mono {S : St} {B B' : Nat} {d : Dv} (h : srcB S B d) (l : B ≤ B') : srcB S B' d := by
  cases d with
  | obj n =>
    obtain ⟨t, h1, h2, h3⟩ := h
    exact ⟨t, h1, h2, Nat.le_trans h3 l⟩
  | _ => trivial
theorem LI.hp' (I : LI P w K A a p ns H7 H sa S) : ∃ u, H p = some u := by
  obtain ⟨xs, h⟩ := I.hp
  exact ⟨_, h⟩
theorem srcB.app {B : Nat} {S : St} {things out lines : _} {taken : _} {e : List Th} {d : Dv} (et : things = S.things ++ e) (h : srcB S B d) : srcB ⟨things, out, lines, taken⟩ B d := by
  cases d with
  | obj n =>
    obtain ⟨t, h1, h2⟩ := h
    exact ⟨t, by show things[n]? = _; rw [et, List.getElem?_append_left (List.getElem?_eq_some_iff.mp h1).1]; exact h1, h2⟩
  | _ => trivial
theorem Od.vk (L : Lib P K mg A) (I : LI P w K A a p ns H7 H sa S) (o : Od p sa sa' H H') : Vk A H H' := by
  obtain ⟨xs, hp⟩ := I.hp
  have go : ∀ (b : Addr) (u : HO), H b = some u → ((∃ dx fs, u = .ins A.Ref dx fs) ∨ (∃ dx fs, u = .ins A.Builtin dx fs) ∨ ∃ xs, u = .tup xs) → H' b = some u := by
    intro b u e hu
    refine o.fr b u e (fun z => ?_) fun z => ?_
    · obtain ⟨u', e', n1, n2, n3⟩ := I.sm.nv L z
      rw [e] at e'
      cases e'
      rcases hu with ⟨_, _, rfl⟩ | ⟨_, _, rfl⟩ | ⟨_, rfl⟩
      · exact n1 _ _ rfl
      · exact n2 _ _ rfl
      · exact n3 _ rfl
    · rw [z, hp] at e
      cases e
      rcases hu with ⟨_, _, h⟩ | ⟨_, _, h⟩ | ⟨_, h⟩ <;> cases h
  refine ⟨fun v d h => ?_, fun q xs e => go q _ e (.inr (.inr ⟨_, rfl⟩))⟩
  cases d with
  | obj n =>
    obtain ⟨b, dx, rfl, e⟩ := h
    exact ⟨b, dx, rfl, go b _ e (.inl ⟨_, _, rfl⟩)⟩
  | bi n =>
    obtain ⟨b, dx, rfl, e⟩ := h
    exact ⟨b, dx, rfl, go b _ e (.inr (.inl ⟨_, _, rfl⟩))⟩
  | _ => exact h
/-- a row of the law: its list, the cursor's Ref, the values that are due -/
structure Rw where
  k : Addr
  r : Addr
  D : Addr
  v : V
  d : Dv
  us : List V
  n : Nat
  ds : List Dv
  cs : List Dv
structure RowAt (A : Ads) (H : Hp) (S : St) (B : Nat) (x : Rw) : Prop where
  hk : H x.k = some (.lst [.ref x.r, x.v, .ref x.D])
  hr : Has A H (.ref x.r) (.obj x.n)
  ht : S.things[x.n]? = some (.cursor x.cs)
  hD : H x.D = some (.lst x.us)
  hu : Hs A H x.us x.ds
  hv : Has A H x.v x.d
  src : srcB S B x.d
  le : x.ds.length ≤ 1000
structure Out (H7 : Hp) (sa : Sa) (p c : Addr) : Prop where
  o : ¬ sa.own c
  f : H7 c = none
  p : c ≠ p
structure RI (A : Ads) (H7 H : Hp) (sa : Sa) (S : St) (p Rl : Addr) (B : Nat) (R : List Rw) : Prop where
  hR : H Rl = some (.lst (R.map fun x => .ref x.k))
  oR : Out H7 sa p Rl
  rows : ∀ (i : Nat) x, R[i]? = some x → RowAt A H S B x
  ok : ∀ (i : Nat) x, R[i]? = some x → Out H7 sa p x.k ∧ Out H7 sa p x.D ∧ x.k ≠ Rl ∧ x.D ≠ Rl ∧ x.D ∉ R.map (·.k)
  nk : (R.map (·.k)).Nodup
  nn : (R.map (·.n)).Nodup
theorem Out.od {c : Addr} {u : HO} (h : Out H7 sa p c) (o : Od p sa sa' H H') (e : H c = some u) : Out H7 sa' p c ∧ H' c = some u :=
  by
  refine ⟨⟨fun z => ?_, h.f, h.p⟩, o.fr _ _ e h.o h.p⟩
  rcases o.gw c z with q | q
  · exact h.o q
  · rw [e] at q
    cases q
theorem RI.imp {Rl : Addr} {B B' : Nat} {R R' : List Rw} (h : RI A H7 H sa S p Rl B R) (o : Od p sa sa' H H') (vk : Vk A H H') (e : ∀ (i : Nat) x', R'[i]? = some x' → ∃ x, R[i]? = some x ∧ x' = { x with cs := x'.cs } ∧ S'.things[x.n]? = some (.cursor x'.cs))
    (ek : R'.map (·.k) = R.map (·.k)) (en : R'.map (·.n) = R.map (·.n)) (hb : ∀ d, srcB S B d → srcB S' B' d) : RI A H7 H' sa' S' p Rl B' R' := by
  have ekr : R'.map (fun x => V.ref x.k) = R.map fun x => V.ref x.k := by
    have := congrArg (List.map V.ref) ek
    rw [List.map_map, List.map_map] at this
    exact this
  refine ⟨by rw [ekr]; exact (h.oR.od o h.hR).2, (h.oR.od o h.hR).1, fun i x' hx' => ?_, fun i x' hx' => ?_, by rw [ek]; exact h.nk, by rw [en]; exact h.nn⟩
  · obtain ⟨x, hx, e1, e2⟩ := e i x' hx'
    have r := h.rows i x hx
    obtain ⟨ok1, ok2, _⟩ := h.ok i x hx
    rw [e1]
    exact ⟨(ok1.od o r.hk).2, vk.v _ _ r.hr, by exact e2, (ok2.od o r.hD).2, r.hu.imp vk.v, vk.v _ _ r.hv, hb _ r.src, r.le⟩
  · obtain ⟨x, hx, e1, e2⟩ := e i x' hx'
    have r := h.rows i x hx
    obtain ⟨ok1, ok2, ok3, ok4, ok5⟩ := h.ok i x hx
    rw [e1, ek]
    exact ⟨(ok1.od o r.hk).1, (ok2.od o r.hD).1, ok3, ok4, ok5⟩
theorem RI.stay {Rl : Addr} {B B' : Nat} {R : List Rw} (h : RI A H7 H sa S p Rl B R) (o : Od p sa sa' H H') (vk : Vk A H H') (hs : ∀ (i : Nat) x, R[i]? = some x → S'.things[x.n]? = some (.cursor x.cs)) (hb : ∀ d, srcB S B d → srcB S' B' d) : RI A H7 H' sa' S' p Rl B' R :=
  h.imp o vk (fun i x hx => ⟨x, hx, rfl, hs i x hx⟩) rfl rfl hb
theorem set_id {α : Type} : ∀ {l : List α} {j : Nat} {x : α}, l[j]? = some x → l.set j x = l := by
  intro l j x h
  refine List.ext_getElem? fun i => ?_
  by_cases hij : j = i
  · subst hij
    rw [List.getElem?_set_self (List.getElem?_eq_some_iff.mp h).1, h]
  · rw [List.getElem?_set_ne hij]
theorem map_set_id {α β : Type} {f : α → β} {l : List α} {j : Nat} {x y : α} (h : l[j]? = some x) (e : f y = f x) : (l.set j y).map f = l.map f := by
  rw [List.map_set, e]
  exact set_id (by rw [List.getElem?_map, h]; rfl)
theorem RI.next {Rl : Addr} {B : Nat} {R : List Rw} {j : Nat} {x : Rw} {cs : List Dv} (h : RI A H7 H sa S p Rl B R) (hx : R[j]? = some x) (o : Od p sa sa' H H') (vk : Vk A H H') :
    RI A H7 H' sa' { S with things := S.things.set x.n (.cursor cs) } p Rl B (R.set j { x with cs := cs }) := by
  have ht := (h.rows j x hx).ht
  have hl := (List.getElem?_eq_some_iff.mp ht).1
  refine h.imp o vk (fun i x' hx' => ?_) (map_set_id hx rfl) (map_set_id hx rfl) fun d hd => ?_
  · by_cases hij : j = i
    · subst hij
      rw [List.getElem?_set_self (List.getElem?_eq_some_iff.mp hx).1] at hx'
      cases hx'
      exact ⟨x, hx, rfl, List.getElem?_set_self hl⟩
    · rw [List.getElem?_set_ne hij] at hx'
      refine ⟨x', hx', rfl, ?_⟩
      have hne : x.n ≠ x'.n := fun z => hij (nodup_get h.nn (by rw [List.getElem?_map, hx]; rfl) (by rw [List.getElem?_map, hx']; exact congrArg some z.symm))
      show (S.things.set x.n (.cursor cs))[x'.n]? = _
      rw [List.getElem?_set_ne hne]
      exact (h.rows i x' hx').ht
  · cases d with
    | obj n =>
      obtain ⟨t, h1, h2, h3⟩ := hd
      have hne : x.n ≠ n := fun z => by
        rw [← z, ht] at h1
        cases h1
        cases h2
      exact ⟨t, by show (S.things.set x.n (.cursor cs))[n]? = _; rw [List.getElem?_set_ne hne]; exact h1, h2, h3⟩
    | _ => trivial
theorem RI.setD {Rl D' : Addr} {B : Nat} {R : List Rw} {j : Nat} {x : Rw} {us' : List V} {ds' : List Dv} (h : RI A H7 H sa S p Rl B R) (hx : R[j]? = some x) (hD : H D' = some (.lst us')) (hu : Hs A H us' ds') (hl : ds'.length ≤ 1000) (oD : Out H7 sa p D') (nR : D' ≠ Rl) (nk : D' ∉ R.map (·.k)) :
    RI A H7 (upd H x.k (.lst [.ref x.r, x.v, .ref D'])) sa S p Rl B (R.set j { x with D := D', us := us', ds := ds' }) := by
  have r0 := h.rows j x hx
  obtain ⟨o1, o2, o3, o4, o5⟩ := h.ok j x hx
  have sv : Sv H (upd H x.k (.lst [.ref x.r, x.v, .ref D'])) := fun b u e n => by
    rw [upd_ne fun z => by rw [z, r0.hk] at e; exact n _ (Option.some.inj e).symm]
    exact e
  have jl := (List.getElem?_eq_some_iff.mp hx).1
  have memk : ∀ {i : Nat} {y : Rw}, R[i]? = some y → y.k ∈ R.map (·.k) := fun e => List.mem_map.mpr ⟨_, List.mem_of_getElem? e, rfl⟩
  have ek : (R.set j { x with D := D', us := us', ds := ds' }).map (·.k) = R.map (·.k) := map_set_id hx rfl
  have en : (R.set j { x with D := D', us := us', ds := ds' }).map (·.n) = R.map (·.n) := map_set_id hx rfl
  have ekr : (R.set j { x with D := D', us := us', ds := ds' }).map (fun x => V.ref x.k) = R.map fun x => V.ref x.k := map_set_id hx rfl
  refine ⟨by rw [ekr, upd_ne o3.symm]; exact h.hR, h.oR, fun i y hy => ?_, fun i y hy => ?_, by rw [ek]; exact h.nk, by rw [en]; exact h.nn⟩
  · by_cases hij : j = i
    · subst hij
      rw [List.getElem?_set_self jl] at hy
      cases hy
      exact ⟨upd_same, r0.hr.sv sv, r0.ht, by rw [upd_ne fun z => nk (by have z : D' = x.k := z; rw [z]; exact memk hx)]; exact hD, hu.imp fun _ _ h => h.sv sv, r0.hv.sv sv, r0.src, hl⟩
    · rw [List.getElem?_set_ne hij] at hy
      have r := h.rows i y hy
      have hne : y.k ≠ x.k := fun z => hij (nodup_get h.nk (by rw [List.getElem?_map, hx]; rfl) (by rw [List.getElem?_map, hy]; exact congrArg some z))
      have hDk : y.D ≠ x.k := fun z => (h.ok i y hy).2.2.2.2 (by rw [z]; exact memk hx)
      exact ⟨by rw [upd_ne hne]; exact r.hk, r.hr.sv sv, r.ht, by rw [upd_ne hDk]; exact r.hD, r.hu.imp fun _ _ h => h.sv sv, r.hv.sv sv, r.src, r.le⟩
  · rw [ek]
    by_cases hij : j = i
    · subst hij
      rw [List.getElem?_set_self jl] at hy
      cases hy
      exact ⟨o1, oD, o3, nR, nk⟩
    · rw [List.getElem?_set_ne hij] at hy
      exact h.ok i y hy
theorem RI.push {Rl : Addr} {B : Nat} {R : List Rw} {x : Rw} (h : RI A H7 H sa S p Rl B R) (r : RowAt A H S B x) (o1 : Out H7 sa p x.k) (o2 : Out H7 sa p x.D) (n1 : x.k ≠ Rl) (n2 : x.D ≠ Rl) (n3 : x.k ∉ R.map (·.k)) (n4 : ∀ y ∈ R, y.D ≠ x.k) (n5 : x.D ∉ R.map (·.k)) (n6 : x.D ≠ x.k) (n7 : x.n ∉ R.map (·.n)) :
    RI A H7 (upd H Rl (.lst ((R ++ [x]).map fun x => .ref x.k))) sa S p Rl B (R ++ [x]) := by
  have sv : Sv H (upd H Rl (.lst ((R ++ [x]).map fun x => .ref x.k))) := fun b u e n => by
    rw [upd_ne fun z => by rw [z, h.hR] at e; exact n _ (Option.some.inj e).symm]
    exact e
  have up : ∀ y, RowAt A H S B y → y.k ≠ Rl → y.D ≠ Rl → RowAt A (upd H Rl (.lst ((R ++ [x]).map fun x => .ref x.k))) S B y := fun y r h1 h2 =>
    ⟨by rw [upd_ne h1]; exact r.hk, r.hr.sv sv, r.ht, by rw [upd_ne h2]; exact r.hD, r.hu.imp fun _ _ h => h.sv sv, r.hv.sv sv, r.src, r.le⟩
  have cs : ∀ (i : Nat) y, (R ++ [x])[i]? = some y → R[i]? = some y ∨ y = x := fun i y e => by
    by_cases hi : i < R.length
    · rw [List.getElem?_append_left hi] at e
      exact .inl e
    · rw [List.getElem?_append_right (by omega)] at e
      have := List.mem_of_getElem? e
      rw [List.mem_singleton] at this
      exact .inr this
  refine ⟨upd_same, h.oR, fun i y hy => ?_, fun i y hy => ?_, ?_, ?_⟩
  · rcases cs i y hy with e | rfl
    · exact up y (h.rows i y e) (h.ok i y e).2.2.1 (h.ok i y e).2.2.2.1
    · exact up y r n1 n2
  · rw [List.map_append, List.map_singleton]
    rcases cs i y hy with e | rfl
    · obtain ⟨a1, a2, a3, a4, a5⟩ := h.ok i y e
      refine ⟨a1, a2, a3, a4, fun z => ?_⟩
      rcases List.mem_append.mp z with z | z
      · exact a5 z
      · rw [List.mem_singleton] at z
        exact n4 y (List.mem_of_getElem? e) z
    · refine ⟨o1, o2, n1, n2, fun z => ?_⟩
      rcases List.mem_append.mp z with z | z
      · exact n5 z
      · rw [List.mem_singleton] at z
        exact n6 z
  · rw [List.map_append, List.nodup_append]
    exact ⟨h.nk, by simp, fun a ha b hb e => by rw [List.map_singleton, List.mem_singleton] at hb; rw [e, hb] at ha; exact n3 ha⟩
  · rw [List.map_append, List.nodup_append]
    exact ⟨h.nn, by simp, fun a ha b hb e => by rw [List.map_singleton, List.mem_singleton] at hb; rw [e, hb] at ha; exact n7 ha⟩
theorem RI.lst {Rl l : Addr} {B : Nat} {R : List Rw} {xs ys : List V} (h : RI A H7 H sa S p Rl B R) (hl : H l = some (.lst xs)) (n1 : l ≠ Rl) (n2 : ∀ (i : Nat) x, R[i]? = some x → x.k ≠ l ∧ x.D ≠ l) : RI A H7 (upd H l (.lst ys)) sa S p Rl B R := by
  have sv : Sv H (upd H l (.lst ys)) := fun b u e n => by
    rw [upd_ne fun z => by rw [z, hl] at e; exact n _ (Option.some.inj e).symm]
    exact e
  refine ⟨by rw [upd_ne n1.symm]; exact h.hR, h.oR, fun i y hy => ?_, h.ok, h.nk, h.nn⟩
  have r := h.rows i y hy
  obtain ⟨m1, m2⟩ := n2 i y hy
  exact ⟨by rw [upd_ne m1]; exact r.hk, r.hr.sv sv, r.ht, by rw [upd_ne m2]; exact r.hD, r.hu.imp fun _ _ h => h.sv sv, r.hv.sv sv, r.src, r.le⟩
end
end My
namespace My
open PySem L2 SX XT XS XE XD XL
open C8 (pss_cut tCut cutS_slice pe_gc)
section
variable {P : Program} {w : World} {K : PySem.W.Frag} {mg : Str → Option Value} {base : Heap} {A : Ads}
def spLaw (K : PySem.W.Frag) : Sp := fun vs H Q _ => ∃ (a : Addr) (ns : List Int), vs = [.ref a] ∧ SqL K H a (ns.map V.int) ∧ ns.length ≤ 63 ∧ ∀ H', Q (.bl true) H'
theorem ok_law {f : Addr} {fd : FuncData} (F : Fun K "law" "law" s_law f fd) (L : Lib P K mg A) : FnOk P w K mg base CX0 6 f fd ["script"] (spLaw K) := by
  have G_law_begin : FnOk P w K mg base CX0 1 L.law_begin.f L.law_begin.fd ["script", "k"] (spBegin K) := ok_law_begin L
  have G_law_draw : FnOk P w K mg base CX0 2 L.law_draw.f L.law_draw.fd ["state", "many"] (spDraw K) := ok_law_draw L
  have G_Store_init : FnOk P w K mg base CX0 3 L.Store_init.f L.Store_init.fd ["self", "lines"] (spSI P w K A) := ok_Store_init L
  have G_law_source : FnOk P w K mg base CX0 5 L.law_source.f L.law_source.fd ["store", "state"] (spSrc P w K A) := ok_law_source L
  have G_make_cursor : FnOk P w K mg base (L2.CX P w) 4 L.make_cursor.f L.make_cursor.fd ["store", "x"] (spMC P w A) := ok_make_cursor L
  have G_Ref_init : FnOk P w K mg base CX0 1 L.Ref_init.f L.Ref_init.fd ["self", "number"] (spI1 A.Ref "number") := ok_Ref_init L
  have G_law_spoilt : FnOk P w K mg base CX0 3 L.law_spoilt.f L.law_spoilt.fd ["store", "value", "state"] (spSpoilt P w K A) := ok_law_spoilt L
  have G_Store_fork : FnOk P w K mg base CX0 5 L.Store_fork.f L.Store_fork.fd ["self"] (spSFk P w A) := ok_Store_fork L
  have G_law_same : FnOk P w K mg base CX0 2 L.law_same.f L.law_same.fd ["told", "due"] (spSame K A) := ok_law_same L
  have G_next_of : FnOk P w K mg base CX0 2 L.next_of.f L.next_of.fd ["store", "ref"] (spNext P w A) := ok_next_of L
  have G_law_refused : FnOk P w K mg base CX0 5 L.law_refused.f L.law_refused.fd ["store"] (spRefd P w A) := ok_law_refused L
  refine F.ok sc_law (fun vs H Q E h => ?_) (fun cdv A' outer s H vs Q E hr h => ?_)
  · obtain ⟨a, ns, rfl, _⟩ := h
    rfl
  · obtain ⟨a, ns, rfl, ha, hns, q⟩ := h
    have nd := sc_law.nd
    refine ⟨_, (pss_cons (ps_set (i := 1) sc_law.nd rfl (.inl rfl) (pe_call G_law_begin (hr.mono (by omega)) (by rfl) L.law_begin.g L.law_begin.F.kp L.law_begin.b .nil pass0 (pa_cons (pv 0) (pa_cons pe_int pa_nil))))
      (pss_cons (ps_set (i := 2) sc_law.nd rfl (.inl rfl) (pe_make L.Store_init.m G_Store_init (hr.mono (by omega)) (by rfl) L.c_Store.g L.Store_init.b .nil pass0 (pa_cons (pe_lst pa_nil) pa_nil)))
      (pss_cons (ps_set (i := 3) sc_law.nd rfl (.inl rfl) (pe_lst pa_nil))
      (pss_cons (ps_for PassesOwn.never rfl (pi_range1 (by rfl) L.z_range (pa_cons (pe_op op_add pe_int (pe_call G_law_draw (hr.mono (by omega)) (by rfl) L.law_draw.g L.law_draw.F.kp L.law_draw.b .nil pass0 (pa_cons (pv 1) (pa_cons pe_int pa_nil)))) pa_nil)) (pg_name (i := 4) sc_law.nd rfl (.inl rfl))
        (pss_cons (ps_asg (pe_call G_law_source (hr.mono (by omega)) (by rfl) L.law_source.g L.law_source.F.kp L.law_source.b .nil pass0 (pa_cons (pv 2) (pa_cons (pv 1) pa_nil))) (pg_tup (by rfl) (pgs_cons (pg_name (i := 5) sc_law.nd rfl (.inl rfl)) (pgs_cons (pg_name (i := 6) sc_law.nd rfl (.inl rfl)) pgs_nil))))
      (pss_cons (ps_set (i := 7) sc_law.nd rfl (.inl rfl) (pe_callB call_len_seq (by rfl) L.z_len PySem.boot_len (pa_cons (pe_fld (pv 2) rfl) pa_nil)))
      (pss_cons (ps_set (i := 8) sc_law.nd rfl (.inl rfl) (pe_call G_make_cursor (hr.mono (by omega)) (by rfl) L.make_cursor.g L.make_cursor.F.kp L.make_cursor.b .nil passL (pa_cons (pv 2) (pa_cons (pv 5) pa_nil))))
      (pss_cons (ps_if (PW.pt (pw_or (pt_not (pt_cmpR (op_eqM L (hr.mono (by omega))) (pv 8) (pe_make L.Ref_init.m G_Ref_init (hr.mono (by omega)) (by rfl) L.c_Ref.g L.Ref_init.b .nil pass0 (pa_cons (pv 7) pa_nil)) (nomark _))) (pw_or1 (pt_cmpR op_ne (pe_callB call_len_seq (by rfl) L.z_len PySem.boot_len (pa_cons (pe_fld (pv 2) rfl) pa_nil)) (pe_op op_add (pv 7) pe_int) (nomark _)))))
        (pss_one (ps_ret pe_bl))
        pss_nil)
      (pss_one (ps_expr (pe_bm PySem.F.plainAttrs_list PySem.F.slot_list_append PySem.F.type_list_append mt_append (pv 3) (pa_cons (pe_lst (pa_cons (pv 8) (pa_cons (pv 5) (pa_cons (pe_callTy call_list_of (by rfl) L.z_list (by decide +kernel) (pa_cons (pv 6) pa_nil)) pa_nil)))) pa_nil)))))))))
      (pss_cons (ps_for PassesOwn.never rfl (pi_range1 (by rfl) L.z_range (pa_cons (pe_callB (call_min2 rfl) (by rfl) L.z_min (by decide +kernel) (pa_cons pe_int (pa_cons (pe_callB (call_max2 rfl) (by rfl) L.z_max (by decide +kernel) (pa_cons pe_int (pa_cons (pe_callB call_len_seq (by rfl) L.z_len PySem.boot_len (pa_cons (pv 0) pa_nil)) pa_nil))) pa_nil))) pa_nil)) (pg_name (i := 4) sc_law.nd rfl (.inl rfl))
        (pss_cons (ps_set (i := 9) sc_law.nd rfl (.inl rfl) (pe_ix ix_list (pv 3) (pe_call G_law_draw (hr.mono (by omega)) (by rfl) L.law_draw.g L.law_draw.F.kp L.law_draw.b .nil pass0 (pa_cons (pv 1) (pa_cons (pe_callB call_len_seq (by rfl) L.z_len PySem.boot_len (pa_cons (pv 3) pa_nil)) pa_nil))) (fun _ _ => rfl)))
      (pss_cons (ps_set (i := 10) sc_law.nd rfl (.inl rfl) (pe_call G_law_draw (hr.mono (by omega)) (by rfl) L.law_draw.g L.law_draw.F.kp L.law_draw.b .nil pass0 (pa_cons (pv 1) (pa_cons pe_int pa_nil))))
      (pss_one (ps_if (pt_cmpR op_eq (pv 10) pe_int (nomark _))
        (pss_one (ps_expr (pe_call G_law_spoilt (hr.mono (by omega)) (by rfl) L.law_spoilt.g L.law_spoilt.F.kp L.law_spoilt.b .nil pass0 (pa_cons (pv 2) (pa_cons (pe_ix ix_list (pv 9) pe_int (fun _ _ => rfl)) (pa_cons (pv 1) pa_nil))))))
        (pss_one (ps_if (pt_cmpR op_eq (pv 10) pe_int (nomark _))
        (pss_cons (ps_set (i := 11) sc_law.nd rfl (.inl rfl) (pe_meth0 (pv 2) L.c_Store.cl L.Store_fork.m G_Store_fork (hr.mono (by omega)) L.Store_fork.b .nil pass0))
      (pss_one (ps_if (pt_not (pt_val (pe_call G_law_same (hr.mono (by omega)) (by rfl) L.law_same.g L.law_same.F.kp L.law_same.b .nil pass0 (pa_cons (pe_call G_next_of (hr.mono (by omega)) (by rfl) L.next_of.g L.next_of.F.kp L.next_of.b .nil pass0 (pa_cons (pv 11) (pa_cons (pe_ix ix_list (pv 9) pe_int (fun _ _ => rfl)) pa_nil))) (pa_cons (pe_slice sl_list (pe_ix ix_list (pv 9) pe_int (fun _ _ => rfl)) po_none (po_some pe_int)) pa_nil)))))
        (pss_one (ps_ret pe_bl))
        pss_nil)))
        (pss_cons (ps_set (i := 12) sc_law.nd rfl (.inl rfl) (pe_call G_next_of (hr.mono (by omega)) (by rfl) L.next_of.g L.next_of.F.kp L.next_of.b .nil pass0 (pa_cons (pv 2) (pa_cons (pe_ix ix_list (pv 9) pe_int (fun _ _ => rfl)) pa_nil))))
      (pss_cons (ps_if (PW.pt (pw_or (pt_not (pt_val (pe_callB call_isi (by rfl) L.z_isinstance (by decide +kernel) (pa_cons (pv 12) (pa_cons (pe_bltn (v := .ty "list") (by rfl) L.z_list (by decide +kernel) rfl) pa_nil))))) (pw_or1 (pt_not (pt_val (pe_call G_law_same (hr.mono (by omega)) (by rfl) L.law_same.g L.law_same.F.kp L.law_same.b .nil pass0 (pa_cons (pv 12) (pa_cons (pe_slice sl_list (pe_ix ix_list (pv 9) pe_int (fun _ _ => rfl)) po_none (po_some pe_int)) pa_nil))))))))
        (pss_one (ps_ret pe_bl))
        pss_nil)
      (pss_cons (ps_asg (pe_slice sl_list (pe_ix ix_list (pv 9) pe_int (fun _ _ => rfl)) (po_some pe_int) po_none) (pg_sub (pv 9) pe_int set_list))
      (pss_one (ps_expr (pe_bm PySem.F.plainAttrs_list PySem.F.slot_list_append PySem.F.type_list_append mt_append (pv 12) (pa_cons pe_int pa_nil))))))))))))))
      (pss_cons (ps_for PassesOwn.never rfl (pi_list (pv 3)) (pg_name (i := 9) sc_law.nd rfl (.inl rfl))
        (pss_one (ps_if (pt_not (pt_val (pe_call G_law_same (hr.mono (by omega)) (by rfl) L.law_same.g L.law_same.F.kp L.law_same.b .nil pass0 (pa_cons (pe_fld (pe_ix ix_list (pe_fld (pv 2) rfl) (pe_fld (pe_ix ix_list (pv 9) pe_int (fun _ _ => rfl)) rfl) (fun _ _ => rfl)) rfl) (pa_cons (pe_ix ix_list (pv 9) pe_int (fun _ _ => rfl)) pa_nil)))))
        (pss_one (ps_ret pe_bl))
        pss_nil)))
      (pss_one (ps_ret (pe_call G_law_refused (hr.mono (by omega)) (by rfl) L.law_refused.g L.law_refused.F.kp L.law_refused.b .nil pass0 (pa_cons (pv 2) pa_nil)))))))))), ?_⟩
    refine ⟨_, rfl, a, ns, 0, rfl, ha, by omega, fun H1 p np s1 st1 => ?_⟩
    refine ⟨Nat.zero_le _, fun l nl b db nb ndb ndbb => ?_⟩
    have sm0 : Same H1 (upd (upd (upd H1 l (.lst [])) db (.own b)) b (.ins A.Store db [])) := fun c u e => by
      have e1 : upd H1 l (.lst []) c = some u := by rw [upd_ne (ne_of_none e nl)]; exact e
      rw [upd_ne (ne_of_none e1 nb), upd_ne (ne_of_none e1 ndb)]
      exact e1
    have nl' : ∀ c, upd H1 l (.lst []) c = none → c ≠ l := fun c e z => by rw [z, upd_same] at e; cases e
    have nb1 : H1 b = none := by have := nl' b nb; rw [upd_ne this] at nb; exact nb
    refine ⟨b, db, l, [], rfl, upd_same, SqL.of (by rw [upd_ne (nl' b nb).symm, upd_ne (nl' db ndb).symm]; exact upd_same), (nl' b nb).symm, fun H2 sa hsb k2 sm2 fr2 => ⟨rfl, ?_⟩⟩
    subst hsb
    have s2 : Same H1 H2 := fun c u e => k2 _ _ (sm0 _ _ e) fun z => by rw [z, nb1] at e; cases e
    have ownN : ∀ c, sa.own c → H1 c = none := fun c z => by
      rcases fr2 c z with rfl | q
      · exact nb1
      · exact sm0.free q
    have I2 : LI P w K A a p ns H1 H2 sa (stO []) := ⟨st1, My.Same.keep s2, st1.same s2, sm2, ownN⟩
    refine ⟨Nat.zero_le _, fun Rl nRl => ?_⟩
    have s3 := same_upd (o := .lst []) nRl
    have I3 := I2.same s3
    have oRl : Out H1 sa p Rl := ⟨I2.sm.fresh L nRl, s2.free nRl, fun z => by obtain ⟨x, k, hp, _⟩ := I2.st; rw [z, hp] at nRl; cases nRl⟩
    refine ⟨_, rfl, a, p, ns, 3, rfl, I3.st, by decide, by decide, fun H4 r k4 st4 r0 r3 => ?_⟩
    have I4 := I3.draw k4 st4
    have hR4 := k4 _ _ (upd_same (H := H2) (a := Rl) (o := .lst [])) oRl.p
    obtain ⟨m, rfl⟩ : ∃ m : Nat, r = (m : Int) := ⟨r.toNat, by omega⟩
    refine ⟨_, _, rfl, rfl, ?_⟩
    have em : (1 : Int) + (m : Int) = ((m + 1 : Nat) : Int) := by omega
    have RI4 : RI A H1 H4 sa (stO []) p Rl 10 [] := ⟨hR4, oRl, fun i x e => (by cases e), fun i x e => (by cases e), List.nodup_nil, List.nodup_nil⟩
    refine ⟨((m + 1 : Nat) : Int), by show [V.int (1 + (m : Int))] = [V.int ((m + 1 : Nat) : Int)]; rw [em], by omega, by omega, for_range (n := m + 1) (fun i σ H' => ∃ (y4 y5 y6 y7 y8 : Option V) (R : List Rw) (sa' : Sa) (S' : St), σ = [some (.ref a), some (.ref p), some (.ref sa'.s), some (.ref Rl), y4, y5, y6, y7, y8, none, none, none, none] ∧ LI P w K A a p ns H1 H' sa' S' ∧ RI A H1 H' sa' S' p Rl 10 R ∧ R.length = i ∧ (∀ (j : Nat) x, R[j]? = some x → x.cs = x.ds) ∧ S'.things[0]? = some (.kin "Error" .non []) ∧ S'.things.length ≤ 1 + 2 * i)
      ⟨none, none, none, none, none, [], sa, stO [], rfl, I4, RI4, rfl, fun j x e => (by cases e), rfl, Nat.le_refl _⟩ ?_ ?_⟩
    · rintro i σ H5 hi ⟨y4, y5, y6, y7, y8, R, sa5, S5, rfl, I5, R5, hRl, hcs, hk0, hln⟩
      rw [Int.zero_add]
      refine ⟨_, rfl, _, rfl, a, p, ns, H1, sa5, S5, rfl, I5, by omega, fun H6 q1 v1 l1 us d ds sa6 S6 e I6 o6 he hel hsz hv1 ok1 tx1 it1 hob hl1 hu1 nl1 nl1' hq1 => ?_⟩
      refine ⟨q1, _, rfl, SqT.of hq1, rfl, _, _, rfl, _, _, rfl, rfl, ?_⟩
      obtain ⟨dsx6, hs6⟩ := I6.sm.s_
      refine ⟨_, rfl, sa5.s, A.Store, dsx6, _, _, rfl, by rw [← o6.s]; exact hs6, L.c_Store.cl, L.n_Store_things, st_things _ _ _ _, sa6.t, _, rfl, .inl (SqL.of I6.sm.t_), ?_⟩
      refine ⟨_, rfl, _, rfl, sa6, S6, v1, d, by rw [o6.s]; rfl, I6.sm, hv1, ok1, tx1, ?_, ?_, ?_⟩
      · rw [he, List.length_append]
        omega
      · intro ds' e'
        rw [it1] at e'
        cases e'
        intro H7 r7 sa7 ev7 sm7 hr7
        have I7 := I6.ev ev7 sm7
        have hXl6 := I6.sm.lx
        rw [List.length_map, hXl6]
        refine ⟨_, rfl, _, rfl, ?_⟩
        intro r8 dr nr ndr ndrr
        refine ⟨r8, dr, _, rfl, upd_same, fun H8 k8 hr8 => ⟨rfl, ?_⟩⟩
        have s8 := Same.made nr ndr k8
        have I8 := I7.same s8
        obtain ⟨dsx8, hs8⟩ := I8.sm.s_
        refine ⟨.obj S6.things.length, .obj S6.things.length, hr7.sv (Same.sv s8), ⟨r8, dr, rfl, hr8⟩, rfl, ?_⟩
        rw [decide_eq_true rfl]
        refine ⟨_, rfl, ite_or (fun e => by cases e) fun _ => ?_⟩
        refine ⟨_, rfl, sa5.s, A.Store, dsx8, _, _, rfl, by rw [← o6.s, ← ev7.s]; exact hs8, L.c_Store.cl, L.n_Store_things, st_things _ _ _ _, sa7.t, _, rfl, .inl (SqL.of I8.sm.t_), ?_⟩
        have hXl7 := I7.sm.lx
        have hl7 : sa7.X.length = S6.things.length + 1 := by rw [hXl7]; show (S6.things ++ [_]).length = _; rw [List.length_append]; rfl
        rw [List.length_map, hl7]
        refine ⟨_, rfl, _, _, rfl, rfl, rfl, _, rfl, ?_⟩
        have e0 : (!decide (V.int ((S6.things.length + 1 : Nat) : Int) = V.int ((S6.things.length : Nat) + 1))) = false := by simp
        rw [e0]
        refine iteF ?_
        have vk6 : Vk A H5 H6 := Od.vk L I5 o6
        have vk7 : Vk A H6 H7 := Fr.vk L I6.sm ev7.fr
        have vk8 : Vk A H5 H8 := (vk6.trans vk7).trans (Sv.vk (Same.sv s8))
        have o8 : Od p sa5 sa7 H5 H8 := (o6.trans (Od.ev ev7) I6.hp').trans (Od.same s8) I7.hp'
        have et : (S6.things ++ [Th.cursor ds]) = S5.things ++ (e ++ [Th.cursor ds]) := by rw [he, List.append_assoc]
        have R8 := R5.stay (S' := { S6 with things := S6.things ++ [Th.cursor ds] }) (B' := 10) o8 vk8 (fun j x hx => by
          have := (R5.rows j x hx).ht
          show (S6.things ++ [Th.cursor ds])[x.n]? = _
          rw [et, List.getElem?_append_left (List.getElem?_eq_some_iff.mp this).1]
          exact this) fun d h => srcB.app et h
        have hl8 : H8 l1 = some (.lst us) := s8 _ _ (ev7.fr _ _ hl1 nl1)
        have hu8 : Hs A H8 us ds := hu1.imp fun v d h => (vk7.v v d h).sv (Same.sv s8)
        have hr8' : Has A H8 (.ref r7) (.obj S6.things.length) := hr7.sv (Same.sv s8)
        have hv8 : Has A H8 v1 d := (vk7.v _ _ hv1).sv (Same.sv s8)
        have hul := hu8.len
        have hobt : ∀ n, d = .obj n → ∃ t, S6.things[n]? = some t ∧ (tP t || tT t) = true ∧ szT t ≤ 10 := fun n ed => by
          obtain ⟨rfl, e1⟩ := hob n ed
          obtain ⟨t, rfl⟩ := List.length_eq_one_iff.mp e1
          obtain ⟨z1, z2⟩ := hsz t (by simp)
          exact ⟨t, by rw [he, List.getElem?_append_right (Nat.le_refl _), Nat.sub_self]; rfl, z2, z1⟩
        have hds : ds.length ≤ 1000 := by
          cases d with
          | str x =>
            cases it1
            rw [List.length_map]
            have : (signs x).length = x.length := by unfold signs; rw [List.length_map]; rfl
            rw [this]
            exact tx1
          | obj n =>
            obtain ⟨t, h1, h2, h3⟩ := hobt n rfl
            have it1 : itemsT S6.things[n]? = some ds := it1
            rw [h1] at it1
            cases t with
            | parts es => cases it1; exact Nat.le_trans h3 (by decide)
            | table es =>
              cases it1
              rw [List.length_map]
              exact Nat.le_trans h3 (by decide)
            | _ => cases h2
          | _ => cases it1
        have src8 : srcB { S6 with things := S6.things ++ [Th.cursor ds] } 10 d := by
          cases d with
          | obj n =>
            obtain ⟨t, h1, h2⟩ := hobt n rfl
            exact ⟨t, by show (S6.things ++ [Th.cursor ds])[n]? = _; rw [List.getElem?_append_left (List.getElem?_eq_some_iff.mp h1).1]; exact h1, h2⟩
          | _ => trivial
        refine ⟨_, rfl, .inl ⟨rfl, _, SqL.of R8.hR⟩, _, rfl, _, rfl, _, rfl, l1, us, rfl, .inl (SqL.of hl8), fun D nD => ?_⟩
        have s9 := same_upd (o := .lst us) nD
        refine ⟨by show 3 ≤ sizeLine; decide, fun kk nkk => ?_⟩
        have s10 := same_upd (o := .lst [.ref r7, v1, .ref D]) nkk
        have s11 := s9.trans s10
        have I10 := I8.same s11
        have R10 := R8.stay (S' := { S6 with things := S6.things ++ [Th.cursor ds] }) (B' := 10) (Od.same s11) (Same.sv s11).vk (fun j x hx => (R8.rows j x hx).ht) fun d h => h
        have I9 := I8.same s9
        have hp10 := I8.hp'
        obtain ⟨up, hup⟩ := hp10
        have ry : ∀ y ∈ R, ∃ j : Nat, R[j]? = some y := fun y hy => by
          obtain ⟨j, hj, e⟩ := List.mem_iff_getElem.mp hy
          exact ⟨j, by rw [List.getElem?_eq_getElem hj, e]⟩
        have oD : Out H1 sa7 p D := ⟨I8.sm.fresh L nD, I8.h7 nD, (ne_of_none hup nD).symm⟩
        have oK : Out H1 sa7 p kk := ⟨I9.sm.fresh L nkk, I9.h7 nkk, (ne_of_none (s9 _ _ hup) nkk).symm⟩
        have rowN : RowAt A (upd (upd H8 D (.lst us)) kk (.lst [.ref r7, v1, .ref D])) { S6 with things := S6.things ++ [Th.cursor ds] } 10 ⟨kk, r7, D, v1, d, us, S6.things.length, ds, ds⟩ :=
          ⟨upd_same, hr8'.sv (Same.sv s11), by show (S6.things ++ [Th.cursor ds])[S6.things.length]? = _; rw [List.getElem?_append_right (Nat.le_refl _), Nat.sub_self]; rfl, s10 _ _ upd_same, hu8.imp fun _ _ h => h.sv (Same.sv s11), hv8.sv (Same.sv s11), src8, hds⟩
        have hpush := R10.push rowN oK oD (fun z => by have z : kk = Rl := z; rw [z, s9 _ _ R8.hR] at nkk; cases nkk) (fun z => by have z : D = Rl := z; rw [z, R8.hR] at nD; cases nD)
          (fun z => by
            obtain ⟨y, hy, e⟩ := List.mem_map.mp z
            obtain ⟨j, hj⟩ := ry y hy
            have := s9 _ _ (R8.rows j y hj).hk
            rw [e, nkk] at this
            cases this)
          (fun y hy z => by
            obtain ⟨j, hj⟩ := ry y hy
            have := s9 _ _ (R8.rows j y hj).hD
            rw [z] at this
            exact absurd this (by rw [nkk]; exact nofun))
          (fun z => by
            obtain ⟨y, hy, e⟩ := List.mem_map.mp z
            obtain ⟨j, hj⟩ := ry y hy
            have := (R8.rows j y hj).hk
            rw [e] at this
            exact absurd this (by rw [nD]; exact nofun))
          (fun z => by have z : D = kk := z; rw [← z, upd_same] at nkk; cases nkk)
          (fun z => by
            obtain ⟨y, hy, e⟩ := List.mem_map.mp z
            obtain ⟨j, hj⟩ := ry y hy
            have h1 := (List.getElem?_eq_some_iff.mp (R5.rows j y hj).ht).1
            have e : y.n = S6.things.length := e
            rw [he, List.length_append] at e
            omega)
        have h3 := List.length_map (f := fun x : Rw => V.ref x.k) (as := R)
        refine ⟨Rl, _, _, rfl, rfl, R10.hR, Nat.lt_of_le_of_lt (m := 4) (by rw [List.length_map]; omega) (by decide), ?_⟩
        obtain ⟨I12, _⟩ := I10.lst (ys := (R ++ [(⟨kk, r7, D, v1, d, us, S6.things.length, ds, ds⟩ : Rw)]).map fun x => V.ref x.k) R10.hR R10.oR.f R10.oR.o R10.oR.p
        have e12 : R.map (fun x => V.ref x.k) ++ [V.ref kk] = (R ++ [(⟨kk, r7, D, v1, d, us, S6.things.length, ds, ds⟩ : Rw)]).map fun x => .ref x.k := by rw [List.map_append]; rfl
        refine ⟨some (.int i), some v1, some (.ref l1), some (.int (S6.things.length : Nat)), some (.ref r7), R ++ [⟨kk, r7, D, v1, d, us, S6.things.length, ds, ds⟩], sa7, _, by rw [ev7.s, o6.s]; rfl, by rw [e12]; exact I12, by rw [e12]; exact hpush, by rw [List.length_append, hRl]; rfl, fun j x hx => ?_, ?_, ?_⟩
        · by_cases hj : j < R.length
          · rw [List.getElem?_append_left hj] at hx
            exact hcs j x hx
          · rw [List.getElem?_append_right (by omega)] at hx
            have := List.mem_of_getElem? hx
            rw [List.mem_singleton] at this
            rw [this]
        · show (S6.things ++ [Th.cursor ds])[0]? = _
          rw [et, List.getElem?_append_left (List.getElem?_eq_some_iff.mp hk0).1]
          exact hk0
        · show (S6.things ++ [Th.cursor ds]).length ≤ _
          rw [et, List.length_append, List.length_append, List.length_singleton]
          omega
      · intro z
        rw [it1] at z
        cases z
    rintro σ H5 ⟨y4, y5, y6, y7, y8, R, sa5, S5, rfl, I5, R5, hRl, hcs, hk0, hln⟩
    obtain ⟨xq, kq, _, _, hs5⟩ := I5.st
    obtain ⟨N, hN, hN30⟩ : ∃ N : Nat, (if (if ((ns.map V.int).length : Int) > 8 then ((ns.map V.int).length : Int) else 8) < 30 then (if ((ns.map V.int).length : Int) > 8 then ((ns.map V.int).length : Int) else 8) else (30 : Int)) = (N : Int) ∧ N ≤ 30 := by
      refine ⟨min 30 (max 8 (ns.map V.int).length), ?_, Nat.min_le_left _ _⟩
      generalize (ns.map V.int).length = z
      split <;> split <;> omega
    refine ⟨_, rfl, a, _, rfl, .inl hs5, _, _, rfl, _, _, rfl, (N : Int), by show [V.int _] = [V.int _]; rw [hN], by omega, by omega, for_range (n := N) (fun i σ H' => ∃ (y4 y5 y6 y7 y8 y9 y10 y11 y12 : Option V) (R : List Rw) (sa' : Sa) (S' : St), σ = [some (.ref a), some (.ref p), some (.ref sa'.s), some (.ref Rl), y4, y5, y6, y7, y8, y9, y10, y11, y12] ∧ LI P w K A a p ns H1 H' sa' S' ∧ RI A H1 H' sa' S' p Rl (10 + i) R ∧ R.length = m + 1 ∧ (∀ (j : Nat) x, R[j]? = some x → x.cs = x.ds) ∧ S'.things[0]? = some (.kin "Error" .non []) ∧ S'.things.length ≤ 10)
      ⟨_, _, _, _, _, _, _, _, _, R, sa5, S5, rfl, I5, R5, hRl, hcs, hk0, by omega⟩ ?_ ?_⟩
    · rintro i σ H6 hi ⟨y4, y5, y6, y7, y8, y9, y10, y11, y12, R, sa, S, rfl, I6, R6, hRl, hcs, hk0, hln⟩
      rw [Int.zero_add]
      have hlm := List.length_map (f := fun x : Rw => V.ref x.k) (as := R)
      refine ⟨_, rfl, _, rfl, _, rfl, Rl, _, rfl, .inl (SqL.of R6.hR), a, p, ns, _, rfl, I6.st, by omega, by omega, fun H7 r k7 st7 r0 r1 => ?_⟩
      obtain ⟨j, rfl⟩ : ∃ j : Nat, r = (j : Int) := ⟨r.toNat, by omega⟩
      have hj : j < R.length := by omega
      obtain ⟨x, hx⟩ : ∃ x, R[j]? = some x := ⟨_, List.getElem?_eq_getElem hj⟩
      have I7 := I6.draw k7 st7
      have R7 := R6.stay (S' := S) (B' := 10 + i) (Od.keep k7) (I6.sv k7).vk (fun j x hx => (R6.rows j x hx).ht) fun d h => h
      refine ⟨Rl, _, _, _, rfl, rfl, SqL.of R7.hR, atI_nat (by rw [List.getElem?_map, hx]; rfl), ?_⟩
      refine ⟨_, rfl, a, p, ns, 6, rfl, I7.st, by decide, by decide, fun H8 rk k8 st8 rk0 rk1 => ?_⟩
      have I8 := I7.draw k8 st8
      have R8 := R7.stay (S' := S) (B' := 10 + i) (Od.keep k8) (I7.sv k8).vk (fun j x hx => (R7.rows j x hx).ht) fun d h => h
      have rx := R8.rows j x hx
      refine ⟨_, rfl, rfl, _, rfl, ite_or (fun e => ?_) fun e => ?_⟩
      · refine ⟨_, rfl, _, rfl, x.k, _, _, _, rfl, rfl, SqL.of rx.hk, atI_nat (j := 1) rfl, _, rfl, a, p, ns, H1, sa, S, x.v, x.d, rfl, I8, rx.hv, ?_, fun H9 S9 I9 o9 vk9 hS9 => ?_⟩
        · have := rx.src
          cases hd : x.d with
          | obj n =>
            rw [hd] at this
            obtain ⟨t, h1, h2, h3⟩ := this
            exact ⟨t, h1, h2, by omega⟩
          | _ => trivial
        · have hb : ∀ d, srcB S (10 + i) d → srcB S9 (10 + (i + 1)) d := fun d hd => by
            cases d with
            | obj n =>
              obtain ⟨t, h1, h2, h3⟩ := hd
              rcases hS9 with rfl | ⟨n', t0, t', e1, e2, rfl, e4, e5⟩
              · exact ⟨t, h1, h2, by omega⟩
              · have hnl := (List.getElem?_eq_some_iff.mp h1).1
                by_cases hn : n' = n
                · subst hn
                  rw [h1] at e2
                  cases e2
                  exact ⟨t', List.getElem?_set_self hnl, e4, by omega⟩
                · exact ⟨t, by show (S.things.set n' t')[n]? = _; rw [List.getElem?_set_ne hn]; exact h1, h2, by omega⟩
            | _ => trivial
          have src := rx.src
          have hne : ∀ (n' : Nat) t0, x.d = .obj n' → S.things[n']? = some t0 → (tP t0 || tT t0) = true := fun n' t0 e1 e2 => by
            rw [e1] at src
            obtain ⟨t, h1, h2, _⟩ := src
            rw [e2] at h1
            cases h1
            exact h2
          have oth : ∀ (n : Nat) th, S.things[n]? = some th → (tP th || tT th) = false → S9.things[n]? = some th := fun n th h1 h2 => by
            rcases hS9 with rfl | ⟨n', t0, t', e1, e2, rfl, e4, e5⟩
            · exact h1
            · have hn : n' ≠ n := fun z => by
                have := hne n' t0 e1 e2
                rw [z, h1] at e2
                cases e2
                rw [h2] at this
                cases this
              show (S.things.set n' t')[n]? = _
              rw [List.getElem?_set_ne hn]
              exact h1
          have R9 := R8.stay (S' := S9) (B' := 10 + (i + 1)) o9 vk9 (fun j x hx => oth _ _ (R8.rows j x hx).ht rfl) hb
          refine ⟨_, _, _, _, _, _, _, _, _, R, sa, S9, rfl, I9, R9, hRl, hcs, oth _ _ hk0 rfl, ?_⟩
          rcases hS9 with rfl | ⟨n', t0, t', e1, e2, rfl, e4, e5⟩
          · exact hln
          · show (S.things.set n' t').length ≤ 10
            rw [List.length_set]
            exact hln
      · obtain ⟨dsx8, hs8⟩ := I8.sm.s_
        have hcx := hcs j x hx
        refine ⟨_, rfl, rfl, _, rfl, ite_or (fun e1 => ?_) fun e1 => ?_⟩
        · refine ⟨_, rfl, sa.s, dsx8, _, rfl, hs8, st_no _ _ _ _ (by decide +kernel) (by decide +kernel) (by decide +kernel) (by decide +kernel), sa, S, rfl, I8.sm, by omega, fun H9 b s9 smb fb => ?_⟩
          refine ⟨_, rfl, _, rfl, x.k, _, _, _, rfl, rfl, SqL.of (s9 _ _ rx.hk), atI_nat (j := 0) rfl, b, S, x.r, x.n, x.cs, rfl, smb, rx.hr.sv (Same.sv s9), rx.ht, fun H10 l us ev10 sm10 nl hl hu => ?_⟩
          have s10 : Same H8 H10 := fun c u e => ev10.fr _ _ (s9 _ _ e) fun z => by rw [fb c z] at e; cases e
          refine ⟨_, rfl, x.k, _, _, _, rfl, rfl, SqL.of (s10 _ _ rx.hk), atI_nat (j := 2) rfl, 1, rfl, x.D, x.us, rfl, SqL.of (s10 _ _ rx.hD), fun T nT => ?_⟩
          have s11 := same_upd (o := .lst (cutV x.us none (some 1))) nT
          have hul := rx.hu.len
          refine ⟨l, T, us, x.us.take 1, x.cs.take 1, x.ds.take 1, rfl, SqL.of (s11 _ _ hl), SqL.of (by rw [upd_same, cut_to1]), hu.imp fun _ _ h => h.sv (Same.sv s11), (rx.hu.take 1).imp fun _ _ h => (h.sv (Same.sv s10)).sv (Same.sv s11), by rw [List.length_take]; omega, ?_⟩
          rw [hcx, decide_eq_true rfl]
          have s12 := s10.trans s11
          have R12 := R8.stay (S' := S) (B' := 10 + (i + 1)) (Od.same s12) (Same.sv s12).vk (fun j x hx => (R8.rows j x hx).ht) fun d h => srcB.mono h (by omega)
          refine ⟨_, rfl, iteF ⟨_, _, _, _, _, _, _, _, _, R, sa, S, rfl, I8.same s12, R12, hRl, hcs, hk0, hln⟩⟩
        · refine ⟨_, rfl, _, rfl, x.k, _, _, _, rfl, rfl, SqL.of rx.hk, atI_nat (j := 0) rfl, sa, S, x.r, x.n, x.cs, rfl, I8.sm, rx.hr, rx.ht, fun H10 l us ev10 sm10 nl hl hu => ?_⟩
          have I10 := I8.ev ev10 sm10
          have vk10 : Vk A H8 H10 := Fr.vk L I8.sm ev10.fr
          have R10 := R8.next (cs := x.cs.drop 1) hx (Od.ev ev10) vk10
          refine ⟨_, rfl, _, .ty "list", _, .type "list", _, rfl, .ty _, .base (.lst hl), kit_list_list, _, rfl, ite_or (fun e => by cases e) fun _ => ?_⟩
          have hkN := R10.rows j { x with cs := x.cs.drop 1 } (by rw [List.getElem?_set_self hj])
          have hul := rx.hu.len
          refine ⟨_, rfl, _, rfl, x.k, _, _, _, rfl, rfl, SqL.of hkN.hk, atI_nat (j := 2) rfl, 1, rfl, x.D, x.us, rfl, SqL.of hkN.hD, fun T nT => ?_⟩
          have s11 := same_upd (o := .lst (cutV x.us none (some 1))) nT
          refine ⟨l, T, us, x.us.take 1, x.cs.take 1, x.ds.take 1, rfl, SqL.of (s11 _ _ hl), SqL.of (by rw [upd_same, cut_to1]), hu.imp fun _ _ h => h.sv (Same.sv s11), (hkN.hu.take 1).imp fun _ _ h => h.sv (Same.sv s11), by rw [List.length_take]; omega, ?_⟩
          rw [hcx, decide_eq_true rfl]
          refine ⟨_, rfl, iteF ?_⟩
          -- row[2] = row[2][1:]
          have k11 := s11 _ _ hkN.hk
          have D11 := s11 _ _ hkN.hD
          refine ⟨_, rfl, x.k, _, _, _, rfl, rfl, SqL.of k11, atI_nat (j := 2) rfl, 1, rfl, x.D, x.us, rfl, SqL.of D11, fun D nD => ?_⟩
          have s12 := same_upd (o := .lst (cutV x.us (some 1) none)) nD
          have s112 := s11.trans s12
          have ej : (R.set j { x with cs := x.cs.drop 1 })[j]? = some { x with cs := x.cs.drop 1 } := by rw [List.getElem?_set_self hj]
          have I11 := I10.same s11
          have I12 := I11.same s12
          have R12 := R10.stay (S' := { S with things := S.things.set x.n (.cursor (x.cs.drop 1)) }) (B' := 10 + (i + 1)) (Od.same s112) (Same.sv s112).vk (fun j x hx => (R10.rows j x hx).ht) fun d h => srcB.mono h (by omega)
          have ekR : (R.set j { x with cs := x.cs.drop 1 }).map (·.k) = R.map (·.k) := map_set_id hx rfl
          obtain ⟨up, hup⟩ := I11.hp'
          have R13 := R12.setD (D' := D) (us' := x.us.drop 1) (ds' := x.ds.drop 1) ej (by rw [upd_same, cut_from1]) ((hkN.hu.drop 1).imp fun _ _ h => h.sv (Same.sv s112)) (by rw [List.length_drop]; have := rx.le; omega)
            ⟨I11.sm.fresh L nD, I11.h7 nD, (ne_of_none hup nD).symm⟩ (fun z => by rw [z] at nD; have := s11 _ _ R10.hR; rw [nD] at this; cases this) (fun z => by
              obtain ⟨y, hy, e⟩ := List.mem_map.mp z
              obtain ⟨j', hj', e'⟩ := List.mem_iff_getElem.mp hy
              have := s11 _ _ (R10.rows j' y (by rw [List.getElem?_eq_getElem hj', e'])).hk
              rw [e, nD] at this
              cases this)
          have nlo := I8.sm.fresh L nl
          have nlR : l ≠ Rl := fun z => by rw [z, R8.hR] at nl; cases nl
          have nlx : ∀ (i : Nat) y, R[i]? = some y → y.k ≠ l ∧ y.D ≠ l := fun i y hy => ⟨ne_of_none (R8.rows i y hy).hk nl, ne_of_none (R8.rows i y hy).hD nl⟩
          obtain ⟨I13, _⟩ := I12.lst (ys := [.ref x.r, x.v, .ref D]) (s12 _ _ k11) (R8.ok j x hx).1.f (R8.ok j x hx).1.o (R8.ok j x hx).1.p
          have l13 : upd (upd (upd H10 T (.lst (cutV x.us none (some 1)))) D (.lst (cutV x.us (some 1) none))) x.k (.lst [.ref x.r, x.v, .ref D]) l = some (.lst us) := by
            rw [upd_ne (nlx j x hx).1.symm]
            exact s112 _ _ hl
          have hul2 := hu.len
          rw [List.length_take] at hul2
          have lp : l ≠ p := fun z => by obtain ⟨u, h⟩ := I8.hp'; rw [← z, nl] at h; cases h
          obtain ⟨I14, _⟩ := I13.lst (ys := us ++ [.int 3]) l13 (I8.h7 nl) nlo lp
          have R14 := R13.lst (ys := us ++ [.int 3]) l13 nlR fun i' y hy => by
            by_cases hij : j = i'
            · subst hij
              rw [List.getElem?_set_self (by rw [List.length_set]; exact hj)] at hy
              cases hy
              exact ⟨(nlx j x hx).1, fun z => by have z : D = l := z; rw [z, s11 _ _ hl] at nD; cases nD⟩
            · rw [List.getElem?_set_ne hij, List.getElem?_set_ne hij] at hy
              exact nlx i' y hy
          refine ⟨_, rfl, x.k, _, 2, 2, rfl, rfl, s12 _ _ k11, rfl, ?_⟩
          refine ⟨_, rfl, .inl ⟨rfl, _, SqL.of l13⟩, l, us, _, rfl, rfl, l13, Nat.lt_of_le_of_lt (m := 1) (by omega) (by decide), ?_⟩
          refine ⟨_, _, _, _, _, _, _, _, _, _, sa, _, rfl, I14, R14, by rw [List.length_set, List.length_set]; exact hRl, fun i' y hy => ?_, ?_, ?_⟩
          · by_cases hij : j = i'
            · subst hij
              rw [List.getElem?_set_self (by rw [List.length_set]; exact hj)] at hy
              cases hy
              show x.cs.drop 1 = x.ds.drop 1
              rw [hcx]
            · rw [List.getElem?_set_ne hij, List.getElem?_set_ne hij] at hy
              exact hcs i' y hy
          · show (S.things.set x.n _)[0]? = _
            rw [List.getElem?_set_ne fun z => by have := rx.ht; rw [z, hk0] at this; cases this]
            exact hk0
          · show (S.things.set x.n _).length ≤ 10
            rw [List.length_set]
            exact hln
    · rintro σ H6 ⟨y4, y5, y6, y7, y8, y9, y10, y11, y12, R, sa, S, rfl, I6, R6, hRl, hcs, hk0, hln⟩
      obtain ⟨dsx, hs0⟩ := I6.sm.s_
      refine ⟨_, rfl, Rl, rfl, ⟨_, SqL.of R6.hR⟩, for_list (K := K) (a := Rl) (xs := R.map fun x => .ref x.k) (fun i σ H' => ∃ y9, σ = [some (.ref a), some (.ref p), some (.ref sa.s), some (.ref Rl), y4, y5, y6, y7, y8, y9, y10, y11, y12] ∧ H' = H6) ⟨y9, rfl, rfl⟩ (fun i σ H' _ h => by obtain ⟨_, _, rfl⟩ := h; exact SqL.of R6.hR) ?_ ?_⟩
      · rintro i v σ H7 hv ⟨y9, rfl, rfl⟩
        obtain ⟨x, hx, rfl⟩ : ∃ x, R[i]? = some x ∧ V.ref x.k = v := by
          rw [List.getElem?_map] at hv
          cases h : R[i]? with
          | none => rw [h] at hv; cases hv
          | some x => rw [h] at hv; exact ⟨x, rfl, Option.some.inj hv⟩
        have rx := R6.rows i x hx
        obtain ⟨b, db, eb, hb⟩ := rx.hr
        cases eb
        obtain ⟨xx, m', hxx, hm, dx, us, e1, e2, e3⟩ := I6.sm.get rx.ht
        have hul := rx.hu.len
        have hle := rx.le
        refine ⟨_, rfl, sa.s, A.Store, dsx, _, _, rfl, hs0, L.c_Store.cl, L.n_Store_things, st_things _ _ _ _, _, rfl, x.k, _, _, _, rfl, rfl, SqL.of rx.hk, atI_nat (j := 0) rfl, x.r, A.Ref, db, _, _, rfl, hb, L.c_Ref.cl, L.n_Ref_number, lk_hit, sa.t, _, _, .ref xx, rfl, rfl, SqL.of I6.sm.t_, atI_nat (by rw [List.getElem?_map, hxx]; rfl), ?_⟩
        refine ⟨xx, A.Cursor, dx, _, .ref m', rfl, e1, L.c_Cursor.cl, L.n_Cursor_rest, lk_hit, _, rfl, x.k, _, _, _, rfl, rfl, SqL.of rx.hk, atI_nat (j := 2) rfl, m', x.D, us, x.us, x.cs, x.ds, rfl, SqL.of e2, SqL.of rx.hD, e3, rx.hu, by omega, ?_⟩
        rw [hcs i x hx, decide_eq_true rfl]
        exact ⟨_, rfl, iteF ⟨_, rfl, rfl⟩⟩
      · rintro σ H7 ⟨y9, rfl, rfl⟩
        exact ⟨_, rfl, sa, S, [], rfl, I6.sm, hk0, by omega, fun H' => q H'⟩
end
end My
namespace My
open PySem L2 SX XT XS XE
open C8 (pss_cut tCut cutS_slice pe_gc)
theorem evSE (cda cc : Addr) : (supOf sx_ScriptError "ScriptError.__init__" cda cc).Ev := fun env => ⟨⟨_, by rfl⟩, by rfl, by rfl⟩
theorem bodySE (cda cc : Addr) : defBody sx_ScriptError = (supOf sx_ScriptError "ScriptError.__init__" cda cc).body := by rfl
theorem scSE : NdefX.NScope ["self", "kind", "message", "__class__"] ["self", "kind", "message"] ["__class__"] (defScope sx_ScriptError) := NdefX.nscope_by (by decide +kernel)
section
variable {P : Program} {w : World} {K : PySem.W.Frag} {mg : Str → Option Value} {base : Heap} {cE fI cda cc : Addr}
theorem lt_len {s : Str} (h : s.length ≤ 100000) : s.length ≤ sizeLine := by rw [sizeLine_eq]; omega
theorem ok_SE {dV kV doc pm ct oc : Value} {an od : Option Addr} {osl : Array (Option Value)} (lk : K.lookup fI = some ⟨oc, od, .func (PySem.W.ksFn "__init__" "ScriptError.__init__" (defArgs sx_ScriptError) (defBody sx_ScriptError) (defScope sx_ScriptError) dV kV doc pm an (.ref cda) ct cc), osl⟩)
    (hcd : PySem.W.codeIn K (.ref cda) "ScriptError.__init__" = true) (T : Exn P K mg cE fI "kind" "message") (U : Sup P K mg cda cc cE cE) :
    FnOk P w K mg base CX0 1 fI (PySem.W.ksFn "__init__" "ScriptError.__init__" (defArgs sx_ScriptError) (defBody sx_ScriptError) (defScope sx_ScriptError) dV kV doc pm an (.ref cda) ct cc) ["self", "kind", "message"] (spTwo cE "kind" "message") := by
  refine fn_super (D := cE) (F := supOf sx_ScriptError "ScriptError.__init__" cda cc) lk hcd scSE rfl rfl (show (defScope sx_ScriptError).names.lookup ("super" : Str) = some .globalImplicit by decide +kernel) (evSE cda cc) (fun vs H Q E h => ?_) (fun A outer s H vs Q E hr h => ?_)
  · obtain ⟨a, v1, v2, rfl, _⟩ := h
    rfl
  · obtain ⟨a, v1, v2, rfl, ha, ⟨k1, rfl, z1⟩, ⟨k2, rfl, z2⟩, q⟩ := h
    refine ⟨a, cE, _, _, rfl, ha, T.oex, U, pa_cons (pe_joined (.cons (pe_fmt (pv 1)) (.cons pe_str (.cons (pe_fmt (pv 2)) .nil)))) pa_nil, pss_cons (ps_ost (pv 0) (pv 1)) (pss_one (ps_ost (pv 0) (pv 2))), ?_⟩
    have l0 : (Str.empty : Str).length = 0 := by decide +kernel
    have l2 : ((": " : Str)).length = 2 := by decide +kernel
    refine ⟨_, rfl, .inl ⟨k1, rfl, lt_len z1, k1, rfl, ?_, ?_⟩⟩
    · rw [Str.length_append, l0, sizeLine_eq]
      omega
    · refine ⟨_, rfl, ?_, _, rfl, .inl ⟨k2, rfl, lt_len z2, k2, rfl, ?_, ?_⟩⟩
      · rw [Str.length_append, Str.length_append, l0, l2, sizeLine_eq]
        omega
      · rw [Str.length_append, Str.length_append, Str.length_append, l0, l2, sizeLine_eq]
        omega
      · refine ⟨by show 1 ≤ 1000; omega, ha, ?_⟩
        refine ⟨_, rfl, _, rfl, a, cE, rfl, T.oex, T.n1, .inl ⟨ha, fun d hd hne => ?_⟩⟩
        refine ⟨_, rfl, _, rfl, a, cE, rfl, T.oex, T.n2, .inr ⟨d, [("kind", .str k1)], upd_same, ?_, (by show 1 ≤ 900; omega), ?_⟩⟩
        · rw [upd_ne hne]
          exact upd_same
        · exact q d hd hne
end
end My
namespace My
open PySem L2 SX XT XS XE
set_option maxHeartbeats 0 in
theorem all_mk {l : PySem.W.OpenLaw} {w : World} {K : PySem.W.Frag} {h : Heap} {mg : Str → Option Value} {fa cRef cBuiltin cParts cTable cInstance cKin cCursor cStore cLivequillError cScriptError fScriptError cdaScriptError ccScriptError a_tagged a_kind_of a_kind_of_thing a_is_key a_check_size a_check_key a_put_entry a_make_list a_make_map a_make_cursor a_next_of a_law_cell a_law_begin a_law_draw a_law_pick a_law_source a_law_same a_law_spoilt a_law_refused a_law a_Ref_init a_Ref_eq a_Builtin_init a_Builtin_eq a_Parts_init a_Parts_fork a_Table_init a_Table_has a_Table_put a_Table_pairs a_Table_many p_Table_many a_Table_fork a_Instance_init a_Instance_fork a_Kin_init a_Kin_fork a_Cursor_init a_Cursor_fork a_Store_init a_Store_make a_Store_at a_Store_fork : Addr} (X : K.In h) (G : h.Ns mainGlobals mg) (hfa : mg "law" = some (.ref fa))
    {nmScriptError qScriptError flScriptError : Str}
    {NScriptError : Addr}
    {bsScriptError subScriptError rsf_Table_many : List Value}
    {snScriptError : List Str}
    {abScriptError : Bool}
    {colScriptError : Option Bool}
    {ddScriptError odScriptError anScriptError cddScriptError cldScriptError odf_tagged anf_tagged odf_kind_of anf_kind_of odf_kind_of_thing anf_kind_of_thing odf_is_key anf_is_key odf_check_size anf_check_size odf_check_key anf_check_key odf_put_entry anf_put_entry odf_make_list anf_make_list odf_make_map anf_make_map odf_make_cursor anf_make_cursor odf_next_of anf_next_of odf_law_cell anf_law_cell odf_law_begin anf_law_begin odf_law_draw anf_law_draw odf_law_pick anf_law_pick odf_law_source anf_law_source odf_law_same anf_law_same odf_law_spoilt anf_law_spoilt odf_law_refused anf_law_refused odlaw anlaw odf_Ref_init anf_Ref_init odf_Ref_eq anf_Ref_eq odf_Builtin_init anf_Builtin_init odf_Builtin_eq anf_Builtin_eq odf_Parts_init anf_Parts_init odf_Parts_fork anf_Parts_fork odf_Table_init anf_Table_init odf_Table_has anf_Table_has odf_Table_put anf_Table_put odf_Table_pairs anf_Table_pairs odf_Table_many anf_Table_many odf_Table_fork anf_Table_fork odf_Instance_init anf_Instance_init odf_Instance_fork anf_Instance_fork odf_Kin_init anf_Kin_init odf_Kin_fork anf_Kin_fork odf_Cursor_init anf_Cursor_init odf_Cursor_fork anf_Cursor_fork odf_Store_init anf_Store_init odf_Store_make anf_Store_make odf_Store_at anf_Store_at odf_Store_fork anf_Store_fork : Option Addr}
    {m0ScriptError m1ScriptError m2ScriptError m3ScriptError m5ScriptError : Option Value}
    {slScriptError ccsScriptError cslScriptError slf_tagged slf_kind_of slf_kind_of_thing slf_is_key slf_check_size slf_check_key slf_put_entry slf_make_list slf_make_map slf_make_cursor slf_next_of slf_law_cell slf_law_begin slf_law_draw slf_law_pick slf_law_source slf_law_same slf_law_spoilt slf_law_refused sllaw slf_Ref_init slf_Ref_eq slf_Builtin_init slf_Builtin_eq slf_Parts_init slf_Parts_fork slf_Table_init slf_Table_has slf_Table_put slf_Table_pairs slf_Table_many slf_Table_fork slf_Instance_init slf_Instance_fork slf_Kin_init slf_Kin_fork slf_Cursor_init slf_Cursor_fork slf_Store_init slf_Store_make slf_Store_at slf_Store_fork : Array (Option Value)}
    {ocScriptError kVScriptError dcScriptError pmScriptError ctScriptError cclScriptError cl_ScriptError ocf_tagged kVf_tagged dcf_tagged pmf_tagged cdf_tagged ctf_tagged ocf_kind_of kVf_kind_of dcf_kind_of pmf_kind_of cdf_kind_of ctf_kind_of ocf_kind_of_thing kVf_kind_of_thing dcf_kind_of_thing pmf_kind_of_thing cdf_kind_of_thing ctf_kind_of_thing ocf_is_key kVf_is_key dcf_is_key pmf_is_key cdf_is_key ctf_is_key ocf_check_size kVf_check_size dcf_check_size pmf_check_size cdf_check_size ctf_check_size ocf_check_key kVf_check_key dcf_check_key pmf_check_key cdf_check_key ctf_check_key ocf_put_entry kVf_put_entry dcf_put_entry pmf_put_entry cdf_put_entry ctf_put_entry ocf_make_list kVf_make_list dcf_make_list pmf_make_list cdf_make_list ctf_make_list ocf_make_map kVf_make_map dcf_make_map pmf_make_map cdf_make_map ctf_make_map ocf_make_cursor kVf_make_cursor dcf_make_cursor pmf_make_cursor cdf_make_cursor ctf_make_cursor ocf_next_of kVf_next_of dcf_next_of pmf_next_of cdf_next_of ctf_next_of ocf_law_cell kVf_law_cell dcf_law_cell pmf_law_cell cdf_law_cell ctf_law_cell ocf_law_begin kVf_law_begin dcf_law_begin pmf_law_begin cdf_law_begin ctf_law_begin ocf_law_draw kVf_law_draw dcf_law_draw pmf_law_draw cdf_law_draw ctf_law_draw ocf_law_pick kVf_law_pick dcf_law_pick pmf_law_pick cdf_law_pick ctf_law_pick ocf_law_source kVf_law_source dcf_law_source pmf_law_source cdf_law_source ctf_law_source ocf_law_same kVf_law_same dcf_law_same pmf_law_same cdf_law_same ctf_law_same ocf_law_spoilt kVf_law_spoilt dcf_law_spoilt pmf_law_spoilt cdf_law_spoilt ctf_law_spoilt ocf_law_refused kVf_law_refused dcf_law_refused pmf_law_refused cdf_law_refused ctf_law_refused oclaw kVlaw dclaw pmlaw cdlaw ctlaw ocf_Ref_init kVf_Ref_init dcf_Ref_init pmf_Ref_init cdf_Ref_init ctf_Ref_init ocf_Ref_eq kVf_Ref_eq dcf_Ref_eq pmf_Ref_eq cdf_Ref_eq ctf_Ref_eq ocf_Builtin_init kVf_Builtin_init dcf_Builtin_init pmf_Builtin_init cdf_Builtin_init ctf_Builtin_init ocf_Builtin_eq kVf_Builtin_eq dcf_Builtin_eq pmf_Builtin_eq cdf_Builtin_eq ctf_Builtin_eq ocf_Parts_init kVf_Parts_init dcf_Parts_init pmf_Parts_init cdf_Parts_init ctf_Parts_init ocf_Parts_fork kVf_Parts_fork dcf_Parts_fork pmf_Parts_fork cdf_Parts_fork ctf_Parts_fork ocf_Table_init kVf_Table_init dcf_Table_init pmf_Table_init cdf_Table_init ctf_Table_init ocf_Table_has kVf_Table_has dcf_Table_has pmf_Table_has cdf_Table_has ctf_Table_has ocf_Table_put kVf_Table_put dcf_Table_put pmf_Table_put cdf_Table_put ctf_Table_put ocf_Table_pairs kVf_Table_pairs dcf_Table_pairs pmf_Table_pairs cdf_Table_pairs ctf_Table_pairs ocf_Table_many kVf_Table_many dcf_Table_many pmf_Table_many cdf_Table_many ctf_Table_many ocf_Table_fork kVf_Table_fork dcf_Table_fork pmf_Table_fork cdf_Table_fork ctf_Table_fork ocf_Instance_init kVf_Instance_init dcf_Instance_init pmf_Instance_init cdf_Instance_init ctf_Instance_init ocf_Instance_fork kVf_Instance_fork dcf_Instance_fork pmf_Instance_fork cdf_Instance_fork ctf_Instance_fork ocf_Kin_init kVf_Kin_init dcf_Kin_init pmf_Kin_init cdf_Kin_init ctf_Kin_init ocf_Kin_fork kVf_Kin_fork dcf_Kin_fork pmf_Kin_fork cdf_Kin_fork ctf_Kin_fork ocf_Cursor_init kVf_Cursor_init dcf_Cursor_init pmf_Cursor_init cdf_Cursor_init ctf_Cursor_init ocf_Cursor_fork kVf_Cursor_fork dcf_Cursor_fork pmf_Cursor_fork cdf_Cursor_fork ctf_Cursor_fork ocf_Store_init kVf_Store_init dcf_Store_init pmf_Store_init cdf_Store_init ctf_Store_init ocf_Store_make kVf_Store_make dcf_Store_make pmf_Store_make cdf_Store_make ctf_Store_make ocf_Store_at kVf_Store_at dcf_Store_at pmf_Store_at cdf_Store_at ctf_Store_at ocf_Store_fork kVf_Store_fork dcf_Store_fork pmf_Store_fork cdf_Store_fork ctf_Store_fork : Value}
    {cvsScriptError : Array Value}
    {tfScriptError tkMOST_HELD : Tok}
    (uRef : PySem.W.nsIn K mainGlobals "Ref" = some (some (.ref cRef)))
    (mkRef : PySem.W.makesIn K cRef = true)
    (kcRef : PySem.W.keepIn K (.ref cRef) = true)
    (pgRef : PySem.W.plainGet K cRef Str.empty = true)
    (hdRef : PySem.W.hasDictIn K cRef = true)
    (poRef : PySem.W.plainOver K cRef = true)
    (saRef : PySem.W.findIn K (.ref cRef) "__setattr__" = some (some (.builtin "object.__setattr__")))
    (nRef_number : PySem.W.findIn K (.ref cRef) "number" = some none)
    (hnTy : PySem.W.specialIn K (.builtin "object.__class__") "__get__" = some (some (.builtin "getset_descriptor.__get__")))
    (htTy : PySem.W.takesIn K (.builtin "object.__class__") = some true)
    (haRef : PySem.W.findIn K (.ref cRef) "__class__" = some (some (.builtin "object.__class__")))
    (hmRef : PySem.W.mroIn K cRef (.type "object") = some true)
    (uBuiltin : PySem.W.nsIn K mainGlobals "Builtin" = some (some (.ref cBuiltin)))
    (mkBuiltin : PySem.W.makesIn K cBuiltin = true)
    (kcBuiltin : PySem.W.keepIn K (.ref cBuiltin) = true)
    (pgBuiltin : PySem.W.plainGet K cBuiltin Str.empty = true)
    (hdBuiltin : PySem.W.hasDictIn K cBuiltin = true)
    (poBuiltin : PySem.W.plainOver K cBuiltin = true)
    (saBuiltin : PySem.W.findIn K (.ref cBuiltin) "__setattr__" = some (some (.builtin "object.__setattr__")))
    (nBuiltin_name : PySem.W.findIn K (.ref cBuiltin) "name" = some none)
    (haBuiltin : PySem.W.findIn K (.ref cBuiltin) "__class__" = some (some (.builtin "object.__class__")))
    (hmBuiltin : PySem.W.mroIn K cBuiltin (.type "object") = some true)
    (uParts : PySem.W.nsIn K mainGlobals "Parts" = some (some (.ref cParts)))
    (mkParts : PySem.W.makesIn K cParts = true)
    (kcParts : PySem.W.keepIn K (.ref cParts) = true)
    (pgParts : PySem.W.plainGet K cParts Str.empty = true)
    (hdParts : PySem.W.hasDictIn K cParts = true)
    (poParts : PySem.W.plainOver K cParts = true)
    (saParts : PySem.W.findIn K (.ref cParts) "__setattr__" = some (some (.builtin "object.__setattr__")))
    (nParts_held : PySem.W.findIn K (.ref cParts) "held" = some none)
    (haParts : PySem.W.findIn K (.ref cParts) "__class__" = some (some (.builtin "object.__class__")))
    (hmParts : PySem.W.mroIn K cParts (.type "object") = some true)
    (uTable : PySem.W.nsIn K mainGlobals "Table" = some (some (.ref cTable)))
    (mkTable : PySem.W.makesIn K cTable = true)
    (kcTable : PySem.W.keepIn K (.ref cTable) = true)
    (pgTable : PySem.W.plainGet K cTable Str.empty = true)
    (hdTable : PySem.W.hasDictIn K cTable = true)
    (poTable : PySem.W.plainOver K cTable = true)
    (saTable : PySem.W.findIn K (.ref cTable) "__setattr__" = some (some (.builtin "object.__setattr__")))
    (nTable__entries : PySem.W.findIn K (.ref cTable) "_entries" = some none)
    (haTable : PySem.W.findIn K (.ref cTable) "__class__" = some (some (.builtin "object.__class__")))
    (hmTable : PySem.W.mroIn K cTable (.type "object") = some true)
    (uInstance : PySem.W.nsIn K mainGlobals "Instance" = some (some (.ref cInstance)))
    (mkInstance : PySem.W.makesIn K cInstance = true)
    (kcInstance : PySem.W.keepIn K (.ref cInstance) = true)
    (pgInstance : PySem.W.plainGet K cInstance Str.empty = true)
    (hdInstance : PySem.W.hasDictIn K cInstance = true)
    (poInstance : PySem.W.plainOver K cInstance = true)
    (saInstance : PySem.W.findIn K (.ref cInstance) "__setattr__" = some (some (.builtin "object.__setattr__")))
    (nInstance_owner : PySem.W.findIn K (.ref cInstance) "owner" = some none)
    (nInstance_named : PySem.W.findIn K (.ref cInstance) "named" = some none)
    (haInstance : PySem.W.findIn K (.ref cInstance) "__class__" = some (some (.builtin "object.__class__")))
    (hmInstance : PySem.W.mroIn K cInstance (.type "object") = some true)
    (uKin : PySem.W.nsIn K mainGlobals "Kin" = some (some (.ref cKin)))
    (mkKin : PySem.W.makesIn K cKin = true)
    (kcKin : PySem.W.keepIn K (.ref cKin) = true)
    (pgKin : PySem.W.plainGet K cKin Str.empty = true)
    (hdKin : PySem.W.hasDictIn K cKin = true)
    (poKin : PySem.W.plainOver K cKin = true)
    (saKin : PySem.W.findIn K (.ref cKin) "__setattr__" = some (some (.builtin "object.__setattr__")))
    (nKin_name : PySem.W.findIn K (.ref cKin) "name" = some none)
    (nKin_parent : PySem.W.findIn K (.ref cKin) "parent" = some none)
    (nKin_methods : PySem.W.findIn K (.ref cKin) "methods" = some none)
    (haKin : PySem.W.findIn K (.ref cKin) "__class__" = some (some (.builtin "object.__class__")))
    (hmKin : PySem.W.mroIn K cKin (.type "object") = some true)
    (uCursor : PySem.W.nsIn K mainGlobals "Cursor" = some (some (.ref cCursor)))
    (mkCursor : PySem.W.makesIn K cCursor = true)
    (kcCursor : PySem.W.keepIn K (.ref cCursor) = true)
    (pgCursor : PySem.W.plainGet K cCursor Str.empty = true)
    (hdCursor : PySem.W.hasDictIn K cCursor = true)
    (poCursor : PySem.W.plainOver K cCursor = true)
    (saCursor : PySem.W.findIn K (.ref cCursor) "__setattr__" = some (some (.builtin "object.__setattr__")))
    (nCursor_rest : PySem.W.findIn K (.ref cCursor) "rest" = some none)
    (haCursor : PySem.W.findIn K (.ref cCursor) "__class__" = some (some (.builtin "object.__class__")))
    (hmCursor : PySem.W.mroIn K cCursor (.type "object") = some true)
    (uStore : PySem.W.nsIn K mainGlobals "Store" = some (some (.ref cStore)))
    (mkStore : PySem.W.makesIn K cStore = true)
    (kcStore : PySem.W.keepIn K (.ref cStore) = true)
    (pgStore : PySem.W.plainGet K cStore Str.empty = true)
    (hdStore : PySem.W.hasDictIn K cStore = true)
    (poStore : PySem.W.plainOver K cStore = true)
    (saStore : PySem.W.findIn K (.ref cStore) "__setattr__" = some (some (.builtin "object.__setattr__")))
    (nStore_things : PySem.W.findIn K (.ref cStore) "things" = some none)
    (nStore_output : PySem.W.findIn K (.ref cStore) "output" = some none)
    (nStore_lines : PySem.W.findIn K (.ref cStore) "lines" = some none)
    (nStore_taken : PySem.W.findIn K (.ref cStore) "taken" = some none)
    (haStore : PySem.W.findIn K (.ref cStore) "__class__" = some (some (.builtin "object.__class__")))
    (hmStore : PySem.W.mroIn K cStore (.type "object") = some true)
    (uLivequillError : PySem.W.nsIn K mainGlobals "LivequillError" = some (some (.ref cLivequillError)))
    (uScriptError : PySem.W.nsIn K mainGlobals "ScriptError" = some (some (.ref cScriptError)))
    (xScriptError : K.lookup cScriptError = some (excClassObj nmScriptError qScriptError cScriptError NScriptError bsScriptError [.ref cLivequillError, .type "ValueError", .type "Exception", .type "BaseException", .type "object"] true snScriptError subScriptError abScriptError colScriptError ddScriptError m0ScriptError m1ScriptError m2ScriptError m3ScriptError m5ScriptError "ValueError.__new__"))
    (saScriptError : PySem.W.findIn K (.ref cScriptError) "__setattr__" = some (some (.builtin "object.__setattr__")))
    (exScriptError : PySem.W.subIn K (.ref cScriptError) (.type "BaseException") = some true)
    (tpScriptError : PySem.W.typeIn K (.ref cScriptError) = some (.type "type"))
    (kpScriptError : PySem.W.keepIn K (.ref cScriptError) = true)
    (n1ScriptError : PySem.W.findIn K (.ref cScriptError) "kind" = some none)
    (n2ScriptError : PySem.W.findIn K (.ref cScriptError) "message" = some none)
    (iScriptError : PySem.W.findIn K (.ref cScriptError) "__init__" = some (some (.ref fScriptError)))
    (tiScriptError : PySem.W.typeIn K (.ref fScriptError) = some (.type "function"))
    (gaScriptError : PySem.W.findIn K (.ref cScriptError) "__getattribute__" = some (some (.builtin "BaseException.__getattribute__")))
    (ggScriptError : PySem.W.findIn K (.ref cScriptError) "__getattr__" = some none)
    (hdScriptError : PySem.W.hasDictIn K cScriptError = true)
    (ssScriptError : PySem.W.subIn K (.ref cScriptError) (.ref cScriptError) = some true)
    (liScriptError : K.lookup fScriptError = some ⟨ocScriptError, odScriptError, .func (PySem.W.ksFn "__init__" "ScriptError.__init__" (defArgs sx_ScriptError) (defBody sx_ScriptError) (defScope sx_ScriptError) .none kVScriptError dcScriptError pmScriptError anScriptError (.ref cdaScriptError) ctScriptError ccScriptError), slScriptError⟩)
    (ciScriptError : PySem.W.codeIn K (.ref cdaScriptError) "ScriptError.__init__" = true)
    (coScriptError : K.lookup cdaScriptError = some ⟨cclScriptError, cddScriptError, .fields cvsScriptError, ccsScriptError⟩)
    (cvScriptError : cvsScriptError[2]? = some (.str flScriptError tfScriptError))
    (fiScriptError : ((l.prog.main.file : Str) == flScriptError) = true)
    (ceScriptError : K.lookup ccScriptError = some ⟨cl_ScriptError, cldScriptError, .cell (some (.ref cScriptError)), cslScriptError⟩)
    (toSup : (l.prog.main.scope.names.lookup ("super" : Str)).isSome = false)
    (suSup : PySem.W.nsIn K mainGlobals "super" = some none)
    (opSup : PySem.W.nsIn K PySem.cStatics "thirdparty.any" = some none)
    (mrScriptError : PySem.W.mroIn K cScriptError (.ref cScriptError) = some true)
    (ksScriptError : PySem.W.ks_superIn K cScriptError cScriptError "__init__" = some (some (.builtin "ValueError.__init__")))
    (vaScriptError : PySem.W.subIn K (.ref cScriptError) (.type "ValueError") = some true)
    (haScriptError : PySem.W.findIn K (.ref cScriptError) "__class__" = some (some (.builtin "object.__class__")))
    (hmScriptError : PySem.W.mroIn K cScriptError (.type "object") = some true)
    (klScriptErrorLivequillError : PySem.W.kitOne K (.ref cScriptError) (.ref cLivequillError) = some true)
    (af_tagged : PySem.W.nsIn K mainGlobals "tagged" = some (some (.ref a_tagged)))
    (lf_tagged : K.lookup a_tagged = some ⟨ocf_tagged, odf_tagged, .func (PySem.W.fnOf "tagged" "tagged" (defArgs s_tagged) (defBody s_tagged) (defScope s_tagged) .none kVf_tagged dcf_tagged pmf_tagged anf_tagged cdf_tagged ctf_tagged), slf_tagged⟩)
    (cf_tagged : PySem.W.codeIn K cdf_tagged "tagged" = true)
    (kf_tagged : PySem.W.keepIn K (.ref a_tagged) = true)
    (af_kind_of : PySem.W.nsIn K mainGlobals "kind_of" = some (some (.ref a_kind_of)))
    (lf_kind_of : K.lookup a_kind_of = some ⟨ocf_kind_of, odf_kind_of, .func (PySem.W.fnOf "kind_of" "kind_of" (defArgs s_kind_of) (defBody s_kind_of) (defScope s_kind_of) .none kVf_kind_of dcf_kind_of pmf_kind_of anf_kind_of cdf_kind_of ctf_kind_of), slf_kind_of⟩)
    (cf_kind_of : PySem.W.codeIn K cdf_kind_of "kind_of" = true)
    (kf_kind_of : PySem.W.keepIn K (.ref a_kind_of) = true)
    (af_kind_of_thing : PySem.W.nsIn K mainGlobals "kind_of_thing" = some (some (.ref a_kind_of_thing)))
    (lf_kind_of_thing : K.lookup a_kind_of_thing = some ⟨ocf_kind_of_thing, odf_kind_of_thing, .func (PySem.W.fnOf "kind_of_thing" "kind_of_thing" (defArgs s_kind_of_thing) (defBody s_kind_of_thing) (defScope s_kind_of_thing) .none kVf_kind_of_thing dcf_kind_of_thing pmf_kind_of_thing anf_kind_of_thing cdf_kind_of_thing ctf_kind_of_thing), slf_kind_of_thing⟩)
    (cf_kind_of_thing : PySem.W.codeIn K cdf_kind_of_thing "kind_of_thing" = true)
    (kf_kind_of_thing : PySem.W.keepIn K (.ref a_kind_of_thing) = true)
    (af_is_key : PySem.W.nsIn K mainGlobals "is_key" = some (some (.ref a_is_key)))
    (lf_is_key : K.lookup a_is_key = some ⟨ocf_is_key, odf_is_key, .func (PySem.W.fnOf "is_key" "is_key" (defArgs s_is_key) (defBody s_is_key) (defScope s_is_key) .none kVf_is_key dcf_is_key pmf_is_key anf_is_key cdf_is_key ctf_is_key), slf_is_key⟩)
    (cf_is_key : PySem.W.codeIn K cdf_is_key "is_key" = true)
    (kf_is_key : PySem.W.keepIn K (.ref a_is_key) = true)
    (af_check_size : PySem.W.nsIn K mainGlobals "check_size" = some (some (.ref a_check_size)))
    (lf_check_size : K.lookup a_check_size = some ⟨ocf_check_size, odf_check_size, .func (PySem.W.fnOf "check_size" "check_size" (defArgs s_check_size) (defBody s_check_size) (defScope s_check_size) .none kVf_check_size dcf_check_size pmf_check_size anf_check_size cdf_check_size ctf_check_size), slf_check_size⟩)
    (cf_check_size : PySem.W.codeIn K cdf_check_size "check_size" = true)
    (kf_check_size : PySem.W.keepIn K (.ref a_check_size) = true)
    (af_check_key : PySem.W.nsIn K mainGlobals "check_key" = some (some (.ref a_check_key)))
    (lf_check_key : K.lookup a_check_key = some ⟨ocf_check_key, odf_check_key, .func (PySem.W.fnOf "check_key" "check_key" (defArgs s_check_key) (defBody s_check_key) (defScope s_check_key) .none kVf_check_key dcf_check_key pmf_check_key anf_check_key cdf_check_key ctf_check_key), slf_check_key⟩)
    (cf_check_key : PySem.W.codeIn K cdf_check_key "check_key" = true)
    (kf_check_key : PySem.W.keepIn K (.ref a_check_key) = true)
    (af_put_entry : PySem.W.nsIn K mainGlobals "put_entry" = some (some (.ref a_put_entry)))
    (lf_put_entry : K.lookup a_put_entry = some ⟨ocf_put_entry, odf_put_entry, .func (PySem.W.fnOf "put_entry" "put_entry" (defArgs s_put_entry) (defBody s_put_entry) (defScope s_put_entry) .none kVf_put_entry dcf_put_entry pmf_put_entry anf_put_entry cdf_put_entry ctf_put_entry), slf_put_entry⟩)
    (cf_put_entry : PySem.W.codeIn K cdf_put_entry "put_entry" = true)
    (kf_put_entry : PySem.W.keepIn K (.ref a_put_entry) = true)
    (af_make_list : PySem.W.nsIn K mainGlobals "make_list" = some (some (.ref a_make_list)))
    (lf_make_list : K.lookup a_make_list = some ⟨ocf_make_list, odf_make_list, .func (PySem.W.fnOf "make_list" "make_list" (defArgs s_make_list) (defBody s_make_list) (defScope s_make_list) .none kVf_make_list dcf_make_list pmf_make_list anf_make_list cdf_make_list ctf_make_list), slf_make_list⟩)
    (cf_make_list : PySem.W.codeIn K cdf_make_list "make_list" = true)
    (kf_make_list : PySem.W.keepIn K (.ref a_make_list) = true)
    (af_make_map : PySem.W.nsIn K mainGlobals "make_map" = some (some (.ref a_make_map)))
    (lf_make_map : K.lookup a_make_map = some ⟨ocf_make_map, odf_make_map, .func (PySem.W.fnOf "make_map" "make_map" (defArgs s_make_map) (defBody s_make_map) (defScope s_make_map) .none kVf_make_map dcf_make_map pmf_make_map anf_make_map cdf_make_map ctf_make_map), slf_make_map⟩)
    (cf_make_map : PySem.W.codeIn K cdf_make_map "make_map" = true)
    (kf_make_map : PySem.W.keepIn K (.ref a_make_map) = true)
    (af_make_cursor : PySem.W.nsIn K mainGlobals "make_cursor" = some (some (.ref a_make_cursor)))
    (lf_make_cursor : K.lookup a_make_cursor = some ⟨ocf_make_cursor, odf_make_cursor, .func (PySem.W.fnOf "make_cursor" "make_cursor" (defArgs s_make_cursor) (defBody s_make_cursor) (defScope s_make_cursor) .none kVf_make_cursor dcf_make_cursor pmf_make_cursor anf_make_cursor cdf_make_cursor ctf_make_cursor), slf_make_cursor⟩)
    (cf_make_cursor : PySem.W.codeIn K cdf_make_cursor "make_cursor" = true)
    (kf_make_cursor : PySem.W.keepIn K (.ref a_make_cursor) = true)
    (af_next_of : PySem.W.nsIn K mainGlobals "next_of" = some (some (.ref a_next_of)))
    (lf_next_of : K.lookup a_next_of = some ⟨ocf_next_of, odf_next_of, .func (PySem.W.fnOf "next_of" "next_of" (defArgs s_next_of) (defBody s_next_of) (defScope s_next_of) .none kVf_next_of dcf_next_of pmf_next_of anf_next_of cdf_next_of ctf_next_of), slf_next_of⟩)
    (cf_next_of : PySem.W.codeIn K cdf_next_of "next_of" = true)
    (kf_next_of : PySem.W.keepIn K (.ref a_next_of) = true)
    (af_law_cell : PySem.W.nsIn K mainGlobals "_law_cell" = some (some (.ref a_law_cell)))
    (lf_law_cell : K.lookup a_law_cell = some ⟨ocf_law_cell, odf_law_cell, .func (PySem.W.fnOf "_law_cell" "_law_cell" (defArgs s_law_cell) (defBody s_law_cell) (defScope s_law_cell) .none kVf_law_cell dcf_law_cell pmf_law_cell anf_law_cell cdf_law_cell ctf_law_cell), slf_law_cell⟩)
    (cf_law_cell : PySem.W.codeIn K cdf_law_cell "_law_cell" = true)
    (kf_law_cell : PySem.W.keepIn K (.ref a_law_cell) = true)
    (af_law_begin : PySem.W.nsIn K mainGlobals "_law_begin" = some (some (.ref a_law_begin)))
    (lf_law_begin : K.lookup a_law_begin = some ⟨ocf_law_begin, odf_law_begin, .func (PySem.W.fnOf "_law_begin" "_law_begin" (defArgs s_law_begin) (defBody s_law_begin) (defScope s_law_begin) .none kVf_law_begin dcf_law_begin pmf_law_begin anf_law_begin cdf_law_begin ctf_law_begin), slf_law_begin⟩)
    (cf_law_begin : PySem.W.codeIn K cdf_law_begin "_law_begin" = true)
    (kf_law_begin : PySem.W.keepIn K (.ref a_law_begin) = true)
    (af_law_draw : PySem.W.nsIn K mainGlobals "_law_draw" = some (some (.ref a_law_draw)))
    (lf_law_draw : K.lookup a_law_draw = some ⟨ocf_law_draw, odf_law_draw, .func (PySem.W.fnOf "_law_draw" "_law_draw" (defArgs s_law_draw) (defBody s_law_draw) (defScope s_law_draw) .none kVf_law_draw dcf_law_draw pmf_law_draw anf_law_draw cdf_law_draw ctf_law_draw), slf_law_draw⟩)
    (cf_law_draw : PySem.W.codeIn K cdf_law_draw "_law_draw" = true)
    (kf_law_draw : PySem.W.keepIn K (.ref a_law_draw) = true)
    (af_law_pick : PySem.W.nsIn K mainGlobals "_law_pick" = some (some (.ref a_law_pick)))
    (lf_law_pick : K.lookup a_law_pick = some ⟨ocf_law_pick, odf_law_pick, .func (PySem.W.fnOf "_law_pick" "_law_pick" (defArgs s_law_pick) (defBody s_law_pick) (defScope s_law_pick) .none kVf_law_pick dcf_law_pick pmf_law_pick anf_law_pick cdf_law_pick ctf_law_pick), slf_law_pick⟩)
    (cf_law_pick : PySem.W.codeIn K cdf_law_pick "_law_pick" = true)
    (kf_law_pick : PySem.W.keepIn K (.ref a_law_pick) = true)
    (af_law_source : PySem.W.nsIn K mainGlobals "_law_source" = some (some (.ref a_law_source)))
    (lf_law_source : K.lookup a_law_source = some ⟨ocf_law_source, odf_law_source, .func (PySem.W.fnOf "_law_source" "_law_source" (defArgs s_law_source) (defBody s_law_source) (defScope s_law_source) .none kVf_law_source dcf_law_source pmf_law_source anf_law_source cdf_law_source ctf_law_source), slf_law_source⟩)
    (cf_law_source : PySem.W.codeIn K cdf_law_source "_law_source" = true)
    (kf_law_source : PySem.W.keepIn K (.ref a_law_source) = true)
    (af_law_same : PySem.W.nsIn K mainGlobals "_law_same" = some (some (.ref a_law_same)))
    (lf_law_same : K.lookup a_law_same = some ⟨ocf_law_same, odf_law_same, .func (PySem.W.fnOf "_law_same" "_law_same" (defArgs s_law_same) (defBody s_law_same) (defScope s_law_same) .none kVf_law_same dcf_law_same pmf_law_same anf_law_same cdf_law_same ctf_law_same), slf_law_same⟩)
    (cf_law_same : PySem.W.codeIn K cdf_law_same "_law_same" = true)
    (kf_law_same : PySem.W.keepIn K (.ref a_law_same) = true)
    (af_law_spoilt : PySem.W.nsIn K mainGlobals "_law_spoilt" = some (some (.ref a_law_spoilt)))
    (lf_law_spoilt : K.lookup a_law_spoilt = some ⟨ocf_law_spoilt, odf_law_spoilt, .func (PySem.W.fnOf "_law_spoilt" "_law_spoilt" (defArgs s_law_spoilt) (defBody s_law_spoilt) (defScope s_law_spoilt) .none kVf_law_spoilt dcf_law_spoilt pmf_law_spoilt anf_law_spoilt cdf_law_spoilt ctf_law_spoilt), slf_law_spoilt⟩)
    (cf_law_spoilt : PySem.W.codeIn K cdf_law_spoilt "_law_spoilt" = true)
    (kf_law_spoilt : PySem.W.keepIn K (.ref a_law_spoilt) = true)
    (af_law_refused : PySem.W.nsIn K mainGlobals "_law_refused" = some (some (.ref a_law_refused)))
    (lf_law_refused : K.lookup a_law_refused = some ⟨ocf_law_refused, odf_law_refused, .func (PySem.W.fnOf "_law_refused" "_law_refused" (defArgs s_law_refused) (defBody s_law_refused) (defScope s_law_refused) .none kVf_law_refused dcf_law_refused pmf_law_refused anf_law_refused cdf_law_refused ctf_law_refused), slf_law_refused⟩)
    (cf_law_refused : PySem.W.codeIn K cdf_law_refused "_law_refused" = true)
    (kf_law_refused : PySem.W.keepIn K (.ref a_law_refused) = true)
    (alaw : PySem.W.nsIn K mainGlobals "law" = some (some (.ref a_law)))
    (llaw : K.lookup a_law = some ⟨oclaw, odlaw, .func (PySem.W.fnOf "law" "law" (defArgs s_law) (defBody s_law) (defScope s_law) .none kVlaw dclaw pmlaw anlaw cdlaw ctlaw), sllaw⟩)
    (claw : PySem.W.codeIn K cdlaw "law" = true)
    (klaw : PySem.W.keepIn K (.ref a_law) = true)
    (af_Ref_init : PySem.W.findIn K (.ref cRef) "__init__" = some (some (.ref a_Ref_init)))
    (if_Ref_init : PySem.W.isFn K (.ref a_Ref_init) = true)
    (lf_Ref_init : K.lookup a_Ref_init = some ⟨ocf_Ref_init, odf_Ref_init, .func (PySem.W.fnOf "__init__" "Ref.__init__" (defArgs s_Ref_init) (defBody s_Ref_init) (defScope s_Ref_init) .none kVf_Ref_init dcf_Ref_init pmf_Ref_init anf_Ref_init cdf_Ref_init ctf_Ref_init), slf_Ref_init⟩)
    (cf_Ref_init : PySem.W.codeIn K cdf_Ref_init "Ref.__init__" = true)
    (kf_Ref_init : PySem.W.keepIn K (.ref a_Ref_init) = true)
    (af_Ref_eq : PySem.W.findIn K (.ref cRef) "__eq__" = some (some (.ref a_Ref_eq)))
    (if_Ref_eq : PySem.W.isFn K (.ref a_Ref_eq) = true)
    (lf_Ref_eq : K.lookup a_Ref_eq = some ⟨ocf_Ref_eq, odf_Ref_eq, .func (PySem.W.fnOf "__eq__" "Ref.__eq__" (defArgs s_Ref_eq) (defBody s_Ref_eq) (defScope s_Ref_eq) .none kVf_Ref_eq dcf_Ref_eq pmf_Ref_eq anf_Ref_eq cdf_Ref_eq ctf_Ref_eq), slf_Ref_eq⟩)
    (cf_Ref_eq : PySem.W.codeIn K cdf_Ref_eq "Ref.__eq__" = true)
    (kf_Ref_eq : PySem.W.keepIn K (.ref a_Ref_eq) = true)
    (af_Builtin_init : PySem.W.findIn K (.ref cBuiltin) "__init__" = some (some (.ref a_Builtin_init)))
    (if_Builtin_init : PySem.W.isFn K (.ref a_Builtin_init) = true)
    (lf_Builtin_init : K.lookup a_Builtin_init = some ⟨ocf_Builtin_init, odf_Builtin_init, .func (PySem.W.fnOf "__init__" "Builtin.__init__" (defArgs s_Builtin_init) (defBody s_Builtin_init) (defScope s_Builtin_init) .none kVf_Builtin_init dcf_Builtin_init pmf_Builtin_init anf_Builtin_init cdf_Builtin_init ctf_Builtin_init), slf_Builtin_init⟩)
    (cf_Builtin_init : PySem.W.codeIn K cdf_Builtin_init "Builtin.__init__" = true)
    (kf_Builtin_init : PySem.W.keepIn K (.ref a_Builtin_init) = true)
    (af_Builtin_eq : PySem.W.findIn K (.ref cBuiltin) "__eq__" = some (some (.ref a_Builtin_eq)))
    (if_Builtin_eq : PySem.W.isFn K (.ref a_Builtin_eq) = true)
    (lf_Builtin_eq : K.lookup a_Builtin_eq = some ⟨ocf_Builtin_eq, odf_Builtin_eq, .func (PySem.W.fnOf "__eq__" "Builtin.__eq__" (defArgs s_Builtin_eq) (defBody s_Builtin_eq) (defScope s_Builtin_eq) .none kVf_Builtin_eq dcf_Builtin_eq pmf_Builtin_eq anf_Builtin_eq cdf_Builtin_eq ctf_Builtin_eq), slf_Builtin_eq⟩)
    (cf_Builtin_eq : PySem.W.codeIn K cdf_Builtin_eq "Builtin.__eq__" = true)
    (kf_Builtin_eq : PySem.W.keepIn K (.ref a_Builtin_eq) = true)
    (af_Parts_init : PySem.W.findIn K (.ref cParts) "__init__" = some (some (.ref a_Parts_init)))
    (if_Parts_init : PySem.W.isFn K (.ref a_Parts_init) = true)
    (lf_Parts_init : K.lookup a_Parts_init = some ⟨ocf_Parts_init, odf_Parts_init, .func (PySem.W.fnOf "__init__" "Parts.__init__" (defArgs s_Parts_init) (defBody s_Parts_init) (defScope s_Parts_init) .none kVf_Parts_init dcf_Parts_init pmf_Parts_init anf_Parts_init cdf_Parts_init ctf_Parts_init), slf_Parts_init⟩)
    (cf_Parts_init : PySem.W.codeIn K cdf_Parts_init "Parts.__init__" = true)
    (kf_Parts_init : PySem.W.keepIn K (.ref a_Parts_init) = true)
    (af_Parts_fork : PySem.W.findIn K (.ref cParts) "fork" = some (some (.ref a_Parts_fork)))
    (if_Parts_fork : PySem.W.isFn K (.ref a_Parts_fork) = true)
    (lf_Parts_fork : K.lookup a_Parts_fork = some ⟨ocf_Parts_fork, odf_Parts_fork, .func (PySem.W.fnOf "fork" "Parts.fork" (defArgs s_Parts_fork) (defBody s_Parts_fork) (defScope s_Parts_fork) .none kVf_Parts_fork dcf_Parts_fork pmf_Parts_fork anf_Parts_fork cdf_Parts_fork ctf_Parts_fork), slf_Parts_fork⟩)
    (cf_Parts_fork : PySem.W.codeIn K cdf_Parts_fork "Parts.fork" = true)
    (kf_Parts_fork : PySem.W.keepIn K (.ref a_Parts_fork) = true)
    (af_Table_init : PySem.W.findIn K (.ref cTable) "__init__" = some (some (.ref a_Table_init)))
    (if_Table_init : PySem.W.isFn K (.ref a_Table_init) = true)
    (lf_Table_init : K.lookup a_Table_init = some ⟨ocf_Table_init, odf_Table_init, .func (PySem.W.fnOf "__init__" "Table.__init__" (defArgs s_Table_init) (defBody s_Table_init) (defScope s_Table_init) .none kVf_Table_init dcf_Table_init pmf_Table_init anf_Table_init cdf_Table_init ctf_Table_init), slf_Table_init⟩)
    (cf_Table_init : PySem.W.codeIn K cdf_Table_init "Table.__init__" = true)
    (kf_Table_init : PySem.W.keepIn K (.ref a_Table_init) = true)
    (af_Table_has : PySem.W.findIn K (.ref cTable) "has" = some (some (.ref a_Table_has)))
    (if_Table_has : PySem.W.isFn K (.ref a_Table_has) = true)
    (lf_Table_has : K.lookup a_Table_has = some ⟨ocf_Table_has, odf_Table_has, .func (PySem.W.fnOf "has" "Table.has" (defArgs s_Table_has) (defBody s_Table_has) (defScope s_Table_has) .none kVf_Table_has dcf_Table_has pmf_Table_has anf_Table_has cdf_Table_has ctf_Table_has), slf_Table_has⟩)
    (cf_Table_has : PySem.W.codeIn K cdf_Table_has "Table.has" = true)
    (kf_Table_has : PySem.W.keepIn K (.ref a_Table_has) = true)
    (af_Table_put : PySem.W.findIn K (.ref cTable) "put" = some (some (.ref a_Table_put)))
    (if_Table_put : PySem.W.isFn K (.ref a_Table_put) = true)
    (lf_Table_put : K.lookup a_Table_put = some ⟨ocf_Table_put, odf_Table_put, .func (PySem.W.fnOf "put" "Table.put" (defArgs s_Table_put) (defBody s_Table_put) (defScope s_Table_put) .none kVf_Table_put dcf_Table_put pmf_Table_put anf_Table_put cdf_Table_put ctf_Table_put), slf_Table_put⟩)
    (cf_Table_put : PySem.W.codeIn K cdf_Table_put "Table.put" = true)
    (kf_Table_put : PySem.W.keepIn K (.ref a_Table_put) = true)
    (af_Table_pairs : PySem.W.findIn K (.ref cTable) "pairs" = some (some (.ref a_Table_pairs)))
    (if_Table_pairs : PySem.W.isFn K (.ref a_Table_pairs) = true)
    (lf_Table_pairs : K.lookup a_Table_pairs = some ⟨ocf_Table_pairs, odf_Table_pairs, .func (PySem.W.fnOf "pairs" "Table.pairs" (defArgs s_Table_pairs) (defBody s_Table_pairs) (defScope s_Table_pairs) .none kVf_Table_pairs dcf_Table_pairs pmf_Table_pairs anf_Table_pairs cdf_Table_pairs ctf_Table_pairs), slf_Table_pairs⟩)
    (cf_Table_pairs : PySem.W.codeIn K cdf_Table_pairs "Table.pairs" = true)
    (kf_Table_pairs : PySem.W.keepIn K (.ref a_Table_pairs) = true)
    (af_Table_many : PySem.W.findIn K (.ref cTable) "many" = some (some (.ref p_Table_many)))
    (pgtf_Table_many : PySem.W.specialIn K (.ref p_Table_many) "__get__" = some (some (.builtin "property.__get__")))
    (ptkf_Table_many : PySem.W.takesIn K (.ref p_Table_many) = some true)
    (prcf_Table_many : PySem.W.recIn K p_Table_many "property" = some (.ref a_Table_many :: rsf_Table_many))
    (lf_Table_many : K.lookup a_Table_many = some ⟨ocf_Table_many, odf_Table_many, .func (PySem.W.fnOf "many" "Table.many" (defArgs s_Table_many) (defBody s_Table_many) (defScope s_Table_many) .none kVf_Table_many dcf_Table_many pmf_Table_many anf_Table_many cdf_Table_many ctf_Table_many), slf_Table_many⟩)
    (cf_Table_many : PySem.W.codeIn K cdf_Table_many "Table.many" = true)
    (kf_Table_many : PySem.W.keepIn K (.ref a_Table_many) = true)
    (af_Table_fork : PySem.W.findIn K (.ref cTable) "fork" = some (some (.ref a_Table_fork)))
    (if_Table_fork : PySem.W.isFn K (.ref a_Table_fork) = true)
    (lf_Table_fork : K.lookup a_Table_fork = some ⟨ocf_Table_fork, odf_Table_fork, .func (PySem.W.fnOf "fork" "Table.fork" (defArgs s_Table_fork) (defBody s_Table_fork) (defScope s_Table_fork) .none kVf_Table_fork dcf_Table_fork pmf_Table_fork anf_Table_fork cdf_Table_fork ctf_Table_fork), slf_Table_fork⟩)
    (cf_Table_fork : PySem.W.codeIn K cdf_Table_fork "Table.fork" = true)
    (kf_Table_fork : PySem.W.keepIn K (.ref a_Table_fork) = true)
    (af_Instance_init : PySem.W.findIn K (.ref cInstance) "__init__" = some (some (.ref a_Instance_init)))
    (if_Instance_init : PySem.W.isFn K (.ref a_Instance_init) = true)
    (lf_Instance_init : K.lookup a_Instance_init = some ⟨ocf_Instance_init, odf_Instance_init, .func (PySem.W.fnOf "__init__" "Instance.__init__" (defArgs s_Instance_init) (defBody s_Instance_init) (defScope s_Instance_init) .none kVf_Instance_init dcf_Instance_init pmf_Instance_init anf_Instance_init cdf_Instance_init ctf_Instance_init), slf_Instance_init⟩)
    (cf_Instance_init : PySem.W.codeIn K cdf_Instance_init "Instance.__init__" = true)
    (kf_Instance_init : PySem.W.keepIn K (.ref a_Instance_init) = true)
    (af_Instance_fork : PySem.W.findIn K (.ref cInstance) "fork" = some (some (.ref a_Instance_fork)))
    (if_Instance_fork : PySem.W.isFn K (.ref a_Instance_fork) = true)
    (lf_Instance_fork : K.lookup a_Instance_fork = some ⟨ocf_Instance_fork, odf_Instance_fork, .func (PySem.W.fnOf "fork" "Instance.fork" (defArgs s_Instance_fork) (defBody s_Instance_fork) (defScope s_Instance_fork) .none kVf_Instance_fork dcf_Instance_fork pmf_Instance_fork anf_Instance_fork cdf_Instance_fork ctf_Instance_fork), slf_Instance_fork⟩)
    (cf_Instance_fork : PySem.W.codeIn K cdf_Instance_fork "Instance.fork" = true)
    (kf_Instance_fork : PySem.W.keepIn K (.ref a_Instance_fork) = true)
    (af_Kin_init : PySem.W.findIn K (.ref cKin) "__init__" = some (some (.ref a_Kin_init)))
    (if_Kin_init : PySem.W.isFn K (.ref a_Kin_init) = true)
    (lf_Kin_init : K.lookup a_Kin_init = some ⟨ocf_Kin_init, odf_Kin_init, .func (PySem.W.fnOf "__init__" "Kin.__init__" (defArgs s_Kin_init) (defBody s_Kin_init) (defScope s_Kin_init) .none kVf_Kin_init dcf_Kin_init pmf_Kin_init anf_Kin_init cdf_Kin_init ctf_Kin_init), slf_Kin_init⟩)
    (cf_Kin_init : PySem.W.codeIn K cdf_Kin_init "Kin.__init__" = true)
    (kf_Kin_init : PySem.W.keepIn K (.ref a_Kin_init) = true)
    (af_Kin_fork : PySem.W.findIn K (.ref cKin) "fork" = some (some (.ref a_Kin_fork)))
    (if_Kin_fork : PySem.W.isFn K (.ref a_Kin_fork) = true)
    (lf_Kin_fork : K.lookup a_Kin_fork = some ⟨ocf_Kin_fork, odf_Kin_fork, .func (PySem.W.fnOf "fork" "Kin.fork" (defArgs s_Kin_fork) (defBody s_Kin_fork) (defScope s_Kin_fork) .none kVf_Kin_fork dcf_Kin_fork pmf_Kin_fork anf_Kin_fork cdf_Kin_fork ctf_Kin_fork), slf_Kin_fork⟩)
    (cf_Kin_fork : PySem.W.codeIn K cdf_Kin_fork "Kin.fork" = true)
    (kf_Kin_fork : PySem.W.keepIn K (.ref a_Kin_fork) = true)
    (af_Cursor_init : PySem.W.findIn K (.ref cCursor) "__init__" = some (some (.ref a_Cursor_init)))
    (if_Cursor_init : PySem.W.isFn K (.ref a_Cursor_init) = true)
    (lf_Cursor_init : K.lookup a_Cursor_init = some ⟨ocf_Cursor_init, odf_Cursor_init, .func (PySem.W.fnOf "__init__" "Cursor.__init__" (defArgs s_Cursor_init) (defBody s_Cursor_init) (defScope s_Cursor_init) .none kVf_Cursor_init dcf_Cursor_init pmf_Cursor_init anf_Cursor_init cdf_Cursor_init ctf_Cursor_init), slf_Cursor_init⟩)
    (cf_Cursor_init : PySem.W.codeIn K cdf_Cursor_init "Cursor.__init__" = true)
    (kf_Cursor_init : PySem.W.keepIn K (.ref a_Cursor_init) = true)
    (af_Cursor_fork : PySem.W.findIn K (.ref cCursor) "fork" = some (some (.ref a_Cursor_fork)))
    (if_Cursor_fork : PySem.W.isFn K (.ref a_Cursor_fork) = true)
    (lf_Cursor_fork : K.lookup a_Cursor_fork = some ⟨ocf_Cursor_fork, odf_Cursor_fork, .func (PySem.W.fnOf "fork" "Cursor.fork" (defArgs s_Cursor_fork) (defBody s_Cursor_fork) (defScope s_Cursor_fork) .none kVf_Cursor_fork dcf_Cursor_fork pmf_Cursor_fork anf_Cursor_fork cdf_Cursor_fork ctf_Cursor_fork), slf_Cursor_fork⟩)
    (cf_Cursor_fork : PySem.W.codeIn K cdf_Cursor_fork "Cursor.fork" = true)
    (kf_Cursor_fork : PySem.W.keepIn K (.ref a_Cursor_fork) = true)
    (af_Store_init : PySem.W.findIn K (.ref cStore) "__init__" = some (some (.ref a_Store_init)))
    (if_Store_init : PySem.W.isFn K (.ref a_Store_init) = true)
    (lf_Store_init : K.lookup a_Store_init = some ⟨ocf_Store_init, odf_Store_init, .func (PySem.W.fnOf "__init__" "Store.__init__" (defArgs s_Store_init) (defBody s_Store_init) (defScope s_Store_init) .none kVf_Store_init dcf_Store_init pmf_Store_init anf_Store_init cdf_Store_init ctf_Store_init), slf_Store_init⟩)
    (cf_Store_init : PySem.W.codeIn K cdf_Store_init "Store.__init__" = true)
    (kf_Store_init : PySem.W.keepIn K (.ref a_Store_init) = true)
    (af_Store_make : PySem.W.findIn K (.ref cStore) "make" = some (some (.ref a_Store_make)))
    (if_Store_make : PySem.W.isFn K (.ref a_Store_make) = true)
    (lf_Store_make : K.lookup a_Store_make = some ⟨ocf_Store_make, odf_Store_make, .func (PySem.W.fnOf "make" "Store.make" (defArgs s_Store_make) (defBody s_Store_make) (defScope s_Store_make) .none kVf_Store_make dcf_Store_make pmf_Store_make anf_Store_make cdf_Store_make ctf_Store_make), slf_Store_make⟩)
    (cf_Store_make : PySem.W.codeIn K cdf_Store_make "Store.make" = true)
    (kf_Store_make : PySem.W.keepIn K (.ref a_Store_make) = true)
    (af_Store_at : PySem.W.findIn K (.ref cStore) "at" = some (some (.ref a_Store_at)))
    (if_Store_at : PySem.W.isFn K (.ref a_Store_at) = true)
    (lf_Store_at : K.lookup a_Store_at = some ⟨ocf_Store_at, odf_Store_at, .func (PySem.W.fnOf "at" "Store.at" (defArgs s_Store_at) (defBody s_Store_at) (defScope s_Store_at) .none kVf_Store_at dcf_Store_at pmf_Store_at anf_Store_at cdf_Store_at ctf_Store_at), slf_Store_at⟩)
    (cf_Store_at : PySem.W.codeIn K cdf_Store_at "Store.at" = true)
    (kf_Store_at : PySem.W.keepIn K (.ref a_Store_at) = true)
    (af_Store_fork : PySem.W.findIn K (.ref cStore) "fork" = some (some (.ref a_Store_fork)))
    (if_Store_fork : PySem.W.isFn K (.ref a_Store_fork) = true)
    (lf_Store_fork : K.lookup a_Store_fork = some ⟨ocf_Store_fork, odf_Store_fork, .func (PySem.W.fnOf "fork" "Store.fork" (defArgs s_Store_fork) (defBody s_Store_fork) (defScope s_Store_fork) .none kVf_Store_fork dcf_Store_fork pmf_Store_fork anf_Store_fork cdf_Store_fork ctf_Store_fork), slf_Store_fork⟩)
    (cf_Store_fork : PySem.W.codeIn K cdf_Store_fork "Store.fork" = true)
    (kf_Store_fork : PySem.W.keepIn K (.ref a_Store_fork) = true)
    (qMOST_HELD : PySem.W.nsIn K mainGlobals "MOST_HELD" = some (some (.int 1000 tkMOST_HELD)))
    (k_Ref_Parts : PySem.W.kitOne K (.ref cRef) (.ref cParts) = some false)
    (k_Ref_Table : PySem.W.kitOne K (.ref cRef) (.ref cTable) = some false)
    (k_Ref_Instance : PySem.W.kitOne K (.ref cRef) (.ref cInstance) = some false)
    (k_Ref_Kin : PySem.W.kitOne K (.ref cRef) (.ref cKin) = some false)
    (k_Ref_Builtin : PySem.W.kitOne K (.ref cRef) (.ref cBuiltin) = some false)
    (k_Ref_bool : PySem.W.kitOne K (.ref cRef) (.type "bool") = some false)
    (k_Ref_int : PySem.W.kitOne K (.ref cRef) (.type "int") = some false)
    (k_Ref_str : PySem.W.kitOne K (.ref cRef) (.type "str") = some false)
    (k_Ref_list : PySem.W.kitOne K (.ref cRef) (.type "list") = some false)
    (k_Builtin_Ref : PySem.W.kitOne K (.ref cBuiltin) (.ref cRef) = some false)
    (k_Builtin_Parts : PySem.W.kitOne K (.ref cBuiltin) (.ref cParts) = some false)
    (k_Builtin_Table : PySem.W.kitOne K (.ref cBuiltin) (.ref cTable) = some false)
    (k_Builtin_Instance : PySem.W.kitOne K (.ref cBuiltin) (.ref cInstance) = some false)
    (k_Builtin_Kin : PySem.W.kitOne K (.ref cBuiltin) (.ref cKin) = some false)
    (k_Builtin_bool : PySem.W.kitOne K (.ref cBuiltin) (.type "bool") = some false)
    (k_Builtin_int : PySem.W.kitOne K (.ref cBuiltin) (.type "int") = some false)
    (k_Builtin_str : PySem.W.kitOne K (.ref cBuiltin) (.type "str") = some false)
    (k_Builtin_list : PySem.W.kitOne K (.ref cBuiltin) (.type "list") = some false)
    (k_Parts_Ref : PySem.W.kitOne K (.ref cParts) (.ref cRef) = some false)
    (k_Parts_Table : PySem.W.kitOne K (.ref cParts) (.ref cTable) = some false)
    (k_Parts_Instance : PySem.W.kitOne K (.ref cParts) (.ref cInstance) = some false)
    (k_Parts_Kin : PySem.W.kitOne K (.ref cParts) (.ref cKin) = some false)
    (k_Parts_Builtin : PySem.W.kitOne K (.ref cParts) (.ref cBuiltin) = some false)
    (k_Parts_bool : PySem.W.kitOne K (.ref cParts) (.type "bool") = some false)
    (k_Parts_int : PySem.W.kitOne K (.ref cParts) (.type "int") = some false)
    (k_Parts_str : PySem.W.kitOne K (.ref cParts) (.type "str") = some false)
    (k_Parts_list : PySem.W.kitOne K (.ref cParts) (.type "list") = some false)
    (k_Table_Ref : PySem.W.kitOne K (.ref cTable) (.ref cRef) = some false)
    (k_Table_Parts : PySem.W.kitOne K (.ref cTable) (.ref cParts) = some false)
    (k_Table_Instance : PySem.W.kitOne K (.ref cTable) (.ref cInstance) = some false)
    (k_Table_Kin : PySem.W.kitOne K (.ref cTable) (.ref cKin) = some false)
    (k_Table_Builtin : PySem.W.kitOne K (.ref cTable) (.ref cBuiltin) = some false)
    (k_Table_bool : PySem.W.kitOne K (.ref cTable) (.type "bool") = some false)
    (k_Table_int : PySem.W.kitOne K (.ref cTable) (.type "int") = some false)
    (k_Table_str : PySem.W.kitOne K (.ref cTable) (.type "str") = some false)
    (k_Table_list : PySem.W.kitOne K (.ref cTable) (.type "list") = some false)
    (k_Instance_Ref : PySem.W.kitOne K (.ref cInstance) (.ref cRef) = some false)
    (k_Instance_Parts : PySem.W.kitOne K (.ref cInstance) (.ref cParts) = some false)
    (k_Instance_Table : PySem.W.kitOne K (.ref cInstance) (.ref cTable) = some false)
    (k_Instance_Kin : PySem.W.kitOne K (.ref cInstance) (.ref cKin) = some false)
    (k_Instance_Builtin : PySem.W.kitOne K (.ref cInstance) (.ref cBuiltin) = some false)
    (k_Instance_bool : PySem.W.kitOne K (.ref cInstance) (.type "bool") = some false)
    (k_Instance_int : PySem.W.kitOne K (.ref cInstance) (.type "int") = some false)
    (k_Instance_str : PySem.W.kitOne K (.ref cInstance) (.type "str") = some false)
    (k_Instance_list : PySem.W.kitOne K (.ref cInstance) (.type "list") = some false)
    (k_Kin_Ref : PySem.W.kitOne K (.ref cKin) (.ref cRef) = some false)
    (k_Kin_Parts : PySem.W.kitOne K (.ref cKin) (.ref cParts) = some false)
    (k_Kin_Table : PySem.W.kitOne K (.ref cKin) (.ref cTable) = some false)
    (k_Kin_Instance : PySem.W.kitOne K (.ref cKin) (.ref cInstance) = some false)
    (k_Kin_Builtin : PySem.W.kitOne K (.ref cKin) (.ref cBuiltin) = some false)
    (k_Kin_bool : PySem.W.kitOne K (.ref cKin) (.type "bool") = some false)
    (k_Kin_int : PySem.W.kitOne K (.ref cKin) (.type "int") = some false)
    (k_Kin_str : PySem.W.kitOne K (.ref cKin) (.type "str") = some false)
    (k_Kin_list : PySem.W.kitOne K (.ref cKin) (.type "list") = some false)
    (k_Cursor_Ref : PySem.W.kitOne K (.ref cCursor) (.ref cRef) = some false)
    (k_Cursor_Parts : PySem.W.kitOne K (.ref cCursor) (.ref cParts) = some false)
    (k_Cursor_Table : PySem.W.kitOne K (.ref cCursor) (.ref cTable) = some false)
    (k_Cursor_Instance : PySem.W.kitOne K (.ref cCursor) (.ref cInstance) = some false)
    (k_Cursor_Kin : PySem.W.kitOne K (.ref cCursor) (.ref cKin) = some false)
    (k_Cursor_Builtin : PySem.W.kitOne K (.ref cCursor) (.ref cBuiltin) = some false)
    (k_Cursor_bool : PySem.W.kitOne K (.ref cCursor) (.type "bool") = some false)
    (k_Cursor_int : PySem.W.kitOne K (.ref cCursor) (.type "int") = some false)
    (k_Cursor_str : PySem.W.kitOne K (.ref cCursor) (.type "str") = some false)
    (k_Cursor_list : PySem.W.kitOne K (.ref cCursor) (.type "list") = some false)
    (k_Store_Ref : PySem.W.kitOne K (.ref cStore) (.ref cRef) = some false)
    (k_Store_Parts : PySem.W.kitOne K (.ref cStore) (.ref cParts) = some false)
    (k_Store_Table : PySem.W.kitOne K (.ref cStore) (.ref cTable) = some false)
    (k_Store_Instance : PySem.W.kitOne K (.ref cStore) (.ref cInstance) = some false)
    (k_Store_Kin : PySem.W.kitOne K (.ref cStore) (.ref cKin) = some false)
    (k_Store_Builtin : PySem.W.kitOne K (.ref cStore) (.ref cBuiltin) = some false)
    (k_Store_bool : PySem.W.kitOne K (.ref cStore) (.type "bool") = some false)
    (k_Store_int : PySem.W.kitOne K (.ref cStore) (.type "int") = some false)
    (k_Store_str : PySem.W.kitOne K (.ref cStore) (.type "str") = some false)
    (k_Store_list : PySem.W.kitOne K (.ref cStore) (.type "list") = some false)
    (k_NoneType_Ref : PySem.W.kitOne K (.type "NoneType") (.ref cRef) = some false)
    (k_NoneType_Parts : PySem.W.kitOne K (.type "NoneType") (.ref cParts) = some false)
    (k_NoneType_Table : PySem.W.kitOne K (.type "NoneType") (.ref cTable) = some false)
    (k_NoneType_Instance : PySem.W.kitOne K (.type "NoneType") (.ref cInstance) = some false)
    (k_NoneType_Kin : PySem.W.kitOne K (.type "NoneType") (.ref cKin) = some false)
    (k_NoneType_Builtin : PySem.W.kitOne K (.type "NoneType") (.ref cBuiltin) = some false)
    (k_bool_Ref : PySem.W.kitOne K (.type "bool") (.ref cRef) = some false)
    (k_bool_Parts : PySem.W.kitOne K (.type "bool") (.ref cParts) = some false)
    (k_bool_Table : PySem.W.kitOne K (.type "bool") (.ref cTable) = some false)
    (k_bool_Instance : PySem.W.kitOne K (.type "bool") (.ref cInstance) = some false)
    (k_bool_Kin : PySem.W.kitOne K (.type "bool") (.ref cKin) = some false)
    (k_bool_Builtin : PySem.W.kitOne K (.type "bool") (.ref cBuiltin) = some false)
    (k_int_Ref : PySem.W.kitOne K (.type "int") (.ref cRef) = some false)
    (k_int_Parts : PySem.W.kitOne K (.type "int") (.ref cParts) = some false)
    (k_int_Table : PySem.W.kitOne K (.type "int") (.ref cTable) = some false)
    (k_int_Instance : PySem.W.kitOne K (.type "int") (.ref cInstance) = some false)
    (k_int_Kin : PySem.W.kitOne K (.type "int") (.ref cKin) = some false)
    (k_int_Builtin : PySem.W.kitOne K (.type "int") (.ref cBuiltin) = some false)
    (k_str_Ref : PySem.W.kitOne K (.type "str") (.ref cRef) = some false)
    (k_str_Parts : PySem.W.kitOne K (.type "str") (.ref cParts) = some false)
    (k_str_Table : PySem.W.kitOne K (.type "str") (.ref cTable) = some false)
    (k_str_Instance : PySem.W.kitOne K (.type "str") (.ref cInstance) = some false)
    (k_str_Kin : PySem.W.kitOne K (.type "str") (.ref cKin) = some false)
    (k_str_Builtin : PySem.W.kitOne K (.type "str") (.ref cBuiltin) = some false)
    (k_tuple_Ref : PySem.W.kitOne K (.type "tuple") (.ref cRef) = some false)
    (k_tuple_Parts : PySem.W.kitOne K (.type "tuple") (.ref cParts) = some false)
    (k_tuple_Table : PySem.W.kitOne K (.type "tuple") (.ref cTable) = some false)
    (k_tuple_Instance : PySem.W.kitOne K (.type "tuple") (.ref cInstance) = some false)
    (k_tuple_Kin : PySem.W.kitOne K (.type "tuple") (.ref cKin) = some false)
    (k_tuple_Builtin : PySem.W.kitOne K (.type "tuple") (.ref cBuiltin) = some false)
    (k_list_Ref : PySem.W.kitOne K (.type "list") (.ref cRef) = some false)
    (k_list_Parts : PySem.W.kitOne K (.type "list") (.ref cParts) = some false)
    (k_list_Table : PySem.W.kitOne K (.type "list") (.ref cTable) = some false)
    (k_list_Instance : PySem.W.kitOne K (.type "list") (.ref cInstance) = some false)
    (k_list_Kin : PySem.W.kitOne K (.type "list") (.ref cKin) = some false)
    (k_list_Builtin : PySem.W.kitOne K (.type "list") (.ref cBuiltin) = some false)
    (nf_Ref_NoneType : PySem.W.notFirst K cRef (.type "NoneType") = true)
    (su_Ref_NoneType : PySem.W.subIn K (.ref cRef) (.type "NoneType") = some false)
    (nf_Ref_int : PySem.W.notFirst K cRef (.type "int") = true)
    (su_Ref_int : PySem.W.subIn K (.ref cRef) (.type "int") = some false)
    (nf_Ref_str : PySem.W.notFirst K cRef (.type "str") = true)
    (su_Ref_str : PySem.W.subIn K (.ref cRef) (.type "str") = some false)
    (nf_Ref_tuple : PySem.W.notFirst K cRef (.type "tuple") = true)
    (su_Ref_tuple : PySem.W.subIn K (.ref cRef) (.type "tuple") = some false)
    (nf_Ref_list : PySem.W.notFirst K cRef (.type "list") = true)
    (su_Ref_list : PySem.W.subIn K (.ref cRef) (.type "list") = some false)
    (nf_Ref_Builtin : PySem.W.notFirst K cRef (.ref cBuiltin) = true)
    (nf_Ref_Parts : PySem.W.notFirst K cRef (.ref cParts) = true)
    (nf_Ref_Table : PySem.W.notFirst K cRef (.ref cTable) = true)
    (nf_Ref_Instance : PySem.W.notFirst K cRef (.ref cInstance) = true)
    (nf_Ref_Kin : PySem.W.notFirst K cRef (.ref cKin) = true)
    (nf_Ref_Cursor : PySem.W.notFirst K cRef (.ref cCursor) = true)
    (nf_Ref_Store : PySem.W.notFirst K cRef (.ref cStore) = true)
    (nf_Builtin_NoneType : PySem.W.notFirst K cBuiltin (.type "NoneType") = true)
    (su_Builtin_NoneType : PySem.W.subIn K (.ref cBuiltin) (.type "NoneType") = some false)
    (nf_Builtin_int : PySem.W.notFirst K cBuiltin (.type "int") = true)
    (su_Builtin_int : PySem.W.subIn K (.ref cBuiltin) (.type "int") = some false)
    (nf_Builtin_str : PySem.W.notFirst K cBuiltin (.type "str") = true)
    (su_Builtin_str : PySem.W.subIn K (.ref cBuiltin) (.type "str") = some false)
    (nf_Builtin_tuple : PySem.W.notFirst K cBuiltin (.type "tuple") = true)
    (su_Builtin_tuple : PySem.W.subIn K (.ref cBuiltin) (.type "tuple") = some false)
    (nf_Builtin_list : PySem.W.notFirst K cBuiltin (.type "list") = true)
    (su_Builtin_list : PySem.W.subIn K (.ref cBuiltin) (.type "list") = some false)
    (nf_Builtin_Ref : PySem.W.notFirst K cBuiltin (.ref cRef) = true)
    (nf_Builtin_Parts : PySem.W.notFirst K cBuiltin (.ref cParts) = true)
    (nf_Builtin_Table : PySem.W.notFirst K cBuiltin (.ref cTable) = true)
    (nf_Builtin_Instance : PySem.W.notFirst K cBuiltin (.ref cInstance) = true)
    (nf_Builtin_Kin : PySem.W.notFirst K cBuiltin (.ref cKin) = true)
    (nf_Builtin_Cursor : PySem.W.notFirst K cBuiltin (.ref cCursor) = true)
    (nf_Builtin_Store : PySem.W.notFirst K cBuiltin (.ref cStore) = true)
    (zrange : PySem.W.nsIn K mainGlobals "range" = some none)
    (zlen : PySem.W.nsIn K mainGlobals "len" = some none)
    (zint : PySem.W.nsIn K mainGlobals "int" = some none)
    (zstr : PySem.W.nsIn K mainGlobals "str" = some none)
    (zbool : PySem.W.nsIn K mainGlobals "bool" = some none)
    (zisinstance : PySem.W.nsIn K mainGlobals "isinstance" = some none)
    (zlist : PySem.W.nsIn K mainGlobals "list" = some none)
    (zdict : PySem.W.nsIn K mainGlobals "dict" = some none)
    (zabs : PySem.W.nsIn K mainGlobals "abs" = some none)
    (zmin : PySem.W.nsIn K mainGlobals "min" = some none)
    (zmax : PySem.W.nsIn K mainGlobals "max" = some none)
    : ∃ fd : FuncData, (∀ (s : Shared) (v : Value), BindsTo s fd ⟨[v], []⟩ [("script", v)]) ∧ ∀ base : Heap, K.In base → base.Ns mainGlobals mg → FnOk l.prog w K mg base CX0 6 fa fd ["script"] (spLaw K) := by
  have e := hfa.symm.trans (PySem.W.mg_of X G alaw)
  cases e
  have KlRef : Cls K cRef := ⟨pgRef, hdRef, poRef, saRef⟩
  have tyRef : ∀ {H : Hp} {a dx : Addr} {fs : List (Str × V)}, H a = some (.ins cRef dx fs) → TyX K H (.ref a) (.ref cRef) := fun e => .base (.ins e KlRef haRef hnTy htTy hmRef)
  have KlBuiltin : Cls K cBuiltin := ⟨pgBuiltin, hdBuiltin, poBuiltin, saBuiltin⟩
  have tyBuiltin : ∀ {H : Hp} {a dx : Addr} {fs : List (Str × V)}, H a = some (.ins cBuiltin dx fs) → TyX K H (.ref a) (.ref cBuiltin) := fun e => .base (.ins e KlBuiltin haBuiltin hnTy htTy hmBuiltin)
  have KlParts : Cls K cParts := ⟨pgParts, hdParts, poParts, saParts⟩
  have tyParts : ∀ {H : Hp} {a dx : Addr} {fs : List (Str × V)}, H a = some (.ins cParts dx fs) → TyX K H (.ref a) (.ref cParts) := fun e => .base (.ins e KlParts haParts hnTy htTy hmParts)
  have KlTable : Cls K cTable := ⟨pgTable, hdTable, poTable, saTable⟩
  have tyTable : ∀ {H : Hp} {a dx : Addr} {fs : List (Str × V)}, H a = some (.ins cTable dx fs) → TyX K H (.ref a) (.ref cTable) := fun e => .base (.ins e KlTable haTable hnTy htTy hmTable)
  have KlInstance : Cls K cInstance := ⟨pgInstance, hdInstance, poInstance, saInstance⟩
  have tyInstance : ∀ {H : Hp} {a dx : Addr} {fs : List (Str × V)}, H a = some (.ins cInstance dx fs) → TyX K H (.ref a) (.ref cInstance) := fun e => .base (.ins e KlInstance haInstance hnTy htTy hmInstance)
  have KlKin : Cls K cKin := ⟨pgKin, hdKin, poKin, saKin⟩
  have tyKin : ∀ {H : Hp} {a dx : Addr} {fs : List (Str × V)}, H a = some (.ins cKin dx fs) → TyX K H (.ref a) (.ref cKin) := fun e => .base (.ins e KlKin haKin hnTy htTy hmKin)
  have KlCursor : Cls K cCursor := ⟨pgCursor, hdCursor, poCursor, saCursor⟩
  have tyCursor : ∀ {H : Hp} {a dx : Addr} {fs : List (Str × V)}, H a = some (.ins cCursor dx fs) → TyX K H (.ref a) (.ref cCursor) := fun e => .base (.ins e KlCursor haCursor hnTy htTy hmCursor)
  have KlStore : Cls K cStore := ⟨pgStore, hdStore, poStore, saStore⟩
  have tyStore : ∀ {H : Hp} {a dx : Addr} {fs : List (Str × V)}, H a = some (.ins cStore dx fs) → TyX K H (.ref a) (.ref cStore) := fun e => .base (.ins e KlStore haStore hnTy htTy hmStore)
  have oexScriptError : OexC K cScriptError := ⟨⟨nmScriptError, qScriptError, NScriptError, bsScriptError, _, snScriptError, subScriptError, abScriptError, colScriptError, ddScriptError, m0ScriptError, m1ScriptError, m2ScriptError, m3ScriptError, m5ScriptError, xScriptError, by rfl⟩, saScriptError, exScriptError, tpScriptError, kpScriptError⟩
  have TScriptError : Exn l.prog K mg cScriptError fScriptError "kind" "message" := ⟨oexScriptError, n1ScriptError, n2ScriptError, iScriptError, tiScriptError, ⟨gaScriptError, ggScriptError, exScriptError, hdScriptError⟩, PySem.W.exm_ref exScriptError hdScriptError tpScriptError ssScriptError⟩
  have UScriptError : Sup l.prog K mg cdaScriptError ccScriptError cScriptError cScriptError := ⟨⟨_, _, _, _, _, _, coScriptError, cvScriptError, fiScriptError⟩, ⟨_, _, _, ceScriptError⟩, toSup, PySem.W.mg_none_of X G suSup, (PySem.W.any_some hdScriptError).imp fun _ h => h.1, mrScriptError, opSup, ksScriptError, vaScriptError⟩
  have bScriptError : Binds K (PySem.W.ksFn "__init__" "ScriptError.__init__" (defArgs sx_ScriptError) (defBody sx_ScriptError) (defScope sx_ScriptError) .none kVScriptError dcScriptError pmScriptError anScriptError (.ref cdaScriptError) ctScriptError ccScriptError) ["self", "kind", "message"] [] := .all fun us hl => match us, hl with | [_, _, _], _ => rfl
  have ecScriptError : ExcC K cScriptError := ⟨gaScriptError, ggScriptError, exScriptError, hdScriptError, haScriptError, hnTy, htTy, hmScriptError⟩
  have Ff_tagged := fun_mk (st := s_tagged) lf_tagged cf_tagged kf_tagged
  have bf_tagged := Ff_tagged.binds (ps := ["key"]) fun _ _ _ _ _ _ us hl => match us, hl with | [_], _ => rfl
  have glf_tagged := PySem.W.mg_of X G af_tagged
  have Ff_kind_of := fun_mk (st := s_kind_of) lf_kind_of cf_kind_of kf_kind_of
  have bf_kind_of := Ff_kind_of.binds (ps := ["store", "value"]) fun _ _ _ _ _ _ us hl => match us, hl with | [_, _], _ => rfl
  have glf_kind_of := PySem.W.mg_of X G af_kind_of
  have Ff_kind_of_thing := fun_mk (st := s_kind_of_thing) lf_kind_of_thing cf_kind_of_thing kf_kind_of_thing
  have bf_kind_of_thing := Ff_kind_of_thing.binds (ps := ["thing"]) fun _ _ _ _ _ _ us hl => match us, hl with | [_], _ => rfl
  have glf_kind_of_thing := PySem.W.mg_of X G af_kind_of_thing
  have Ff_is_key := fun_mk (st := s_is_key) lf_is_key cf_is_key kf_is_key
  have bf_is_key := Ff_is_key.binds (ps := ["value"]) fun _ _ _ _ _ _ us hl => match us, hl with | [_], _ => rfl
  have glf_is_key := PySem.W.mg_of X G af_is_key
  have Ff_check_size := fun_mk (st := s_check_size) lf_check_size cf_check_size kf_check_size
  have bf_check_size := Ff_check_size.binds (ps := ["size"]) fun _ _ _ _ _ _ us hl => match us, hl with | [_], _ => rfl
  have glf_check_size := PySem.W.mg_of X G af_check_size
  have Ff_check_key := fun_mk (st := s_check_key) lf_check_key cf_check_key kf_check_key
  have bf_check_key := Ff_check_key.binds (ps := ["key"]) fun _ _ _ _ _ _ us hl => match us, hl with | [_], _ => rfl
  have glf_check_key := PySem.W.mg_of X G af_check_key
  have Ff_put_entry := fun_mk (st := s_put_entry) lf_put_entry cf_put_entry kf_put_entry
  have bf_put_entry := Ff_put_entry.binds (ps := ["table", "key", "value"]) fun _ _ _ _ _ _ us hl => match us, hl with | [_, _, _], _ => rfl
  have glf_put_entry := PySem.W.mg_of X G af_put_entry
  have Ff_make_list := fun_mk (st := s_make_list) lf_make_list cf_make_list kf_make_list
  have bf_make_list := Ff_make_list.binds (ps := ["store", "values"]) fun _ _ _ _ _ _ us hl => match us, hl with | [_, _], _ => rfl
  have glf_make_list := PySem.W.mg_of X G af_make_list
  have Ff_make_map := fun_mk (st := s_make_map) lf_make_map cf_make_map kf_make_map
  have bf_make_map := Ff_make_map.binds (ps := ["store", "pairs"]) fun _ _ _ _ _ _ us hl => match us, hl with | [_, _], _ => rfl
  have glf_make_map := PySem.W.mg_of X G af_make_map
  have Ff_make_cursor := fun_mk (st := s_make_cursor) lf_make_cursor cf_make_cursor kf_make_cursor
  have bf_make_cursor := Ff_make_cursor.binds (ps := ["store", "x"]) fun _ _ _ _ _ _ us hl => match us, hl with | [_, _], _ => rfl
  have glf_make_cursor := PySem.W.mg_of X G af_make_cursor
  have Ff_next_of := fun_mk (st := s_next_of) lf_next_of cf_next_of kf_next_of
  have bf_next_of := Ff_next_of.binds (ps := ["store", "ref"]) fun _ _ _ _ _ _ us hl => match us, hl with | [_, _], _ => rfl
  have glf_next_of := PySem.W.mg_of X G af_next_of
  have Ff_law_cell := fun_mk (st := s_law_cell) lf_law_cell cf_law_cell kf_law_cell
  have bf_law_cell := Ff_law_cell.binds (ps := ["script", "k"]) fun _ _ _ _ _ _ us hl => match us, hl with | [_, _], _ => rfl
  have glf_law_cell := PySem.W.mg_of X G af_law_cell
  have Ff_law_begin := fun_mk (st := s_law_begin) lf_law_begin cf_law_begin kf_law_begin
  have bf_law_begin := Ff_law_begin.binds (ps := ["script", "k"]) fun _ _ _ _ _ _ us hl => match us, hl with | [_, _], _ => rfl
  have glf_law_begin := PySem.W.mg_of X G af_law_begin
  have Ff_law_draw := fun_mk (st := s_law_draw) lf_law_draw cf_law_draw kf_law_draw
  have bf_law_draw := Ff_law_draw.binds (ps := ["state", "many"]) fun _ _ _ _ _ _ us hl => match us, hl with | [_, _], _ => rfl
  have glf_law_draw := PySem.W.mg_of X G af_law_draw
  have Ff_law_pick := fun_mk (st := s_law_pick) lf_law_pick cf_law_pick kf_law_pick
  have bf_law_pick := Ff_law_pick.binds (ps := ["state", "row"]) fun _ _ _ _ _ _ us hl => match us, hl with | [_, _], _ => rfl
  have glf_law_pick := PySem.W.mg_of X G af_law_pick
  have Ff_law_source := fun_mk (st := s_law_source) lf_law_source cf_law_source kf_law_source
  have bf_law_source := Ff_law_source.binds (ps := ["store", "state"]) fun _ _ _ _ _ _ us hl => match us, hl with | [_, _], _ => rfl
  have glf_law_source := PySem.W.mg_of X G af_law_source
  have Ff_law_same := fun_mk (st := s_law_same) lf_law_same cf_law_same kf_law_same
  have bf_law_same := Ff_law_same.binds (ps := ["told", "due"]) fun _ _ _ _ _ _ us hl => match us, hl with | [_, _], _ => rfl
  have glf_law_same := PySem.W.mg_of X G af_law_same
  have Ff_law_spoilt := fun_mk (st := s_law_spoilt) lf_law_spoilt cf_law_spoilt kf_law_spoilt
  have bf_law_spoilt := Ff_law_spoilt.binds (ps := ["store", "value", "state"]) fun _ _ _ _ _ _ us hl => match us, hl with | [_, _, _], _ => rfl
  have glf_law_spoilt := PySem.W.mg_of X G af_law_spoilt
  have Ff_law_refused := fun_mk (st := s_law_refused) lf_law_refused cf_law_refused kf_law_refused
  have bf_law_refused := Ff_law_refused.binds (ps := ["store"]) fun _ _ _ _ _ _ us hl => match us, hl with | [_], _ => rfl
  have glf_law_refused := PySem.W.mg_of X G af_law_refused
  have Flaw := fun_mk (st := s_law) llaw claw klaw
  have gllaw := PySem.W.mg_of X G alaw
  have Ff_Ref_init := fun_mk (st := s_Ref_init) lf_Ref_init cf_Ref_init kf_Ref_init
  have bf_Ref_init := Ff_Ref_init.binds (ps := ["self", "number"]) fun _ _ _ _ _ _ us hl => match us, hl with | [_, _], _ => rfl
  have Kf_Ref_init : Mk K cRef a_Ref_init := ⟨mkRef, af_Ref_init, if_Ref_init, kcRef⟩
  have Ff_Ref_eq := fun_mk (st := s_Ref_eq) lf_Ref_eq cf_Ref_eq kf_Ref_eq
  have bf_Ref_eq := Ff_Ref_eq.binds (ps := ["self", "other"]) fun _ _ _ _ _ _ us hl => match us, hl with | [_, _], _ => rfl
  have Mf_Ref_eq : Meth K cRef "__eq__" a_Ref_eq := ⟨af_Ref_eq, if_Ref_eq, kf_Ref_eq⟩
  have Ff_Builtin_init := fun_mk (st := s_Builtin_init) lf_Builtin_init cf_Builtin_init kf_Builtin_init
  have bf_Builtin_init := Ff_Builtin_init.binds (ps := ["self", "name"]) fun _ _ _ _ _ _ us hl => match us, hl with | [_, _], _ => rfl
  have Kf_Builtin_init : Mk K cBuiltin a_Builtin_init := ⟨mkBuiltin, af_Builtin_init, if_Builtin_init, kcBuiltin⟩
  have Ff_Builtin_eq := fun_mk (st := s_Builtin_eq) lf_Builtin_eq cf_Builtin_eq kf_Builtin_eq
  have bf_Builtin_eq := Ff_Builtin_eq.binds (ps := ["self", "other"]) fun _ _ _ _ _ _ us hl => match us, hl with | [_, _], _ => rfl
  have Mf_Builtin_eq : Meth K cBuiltin "__eq__" a_Builtin_eq := ⟨af_Builtin_eq, if_Builtin_eq, kf_Builtin_eq⟩
  have Ff_Parts_init := fun_mk (st := s_Parts_init) lf_Parts_init cf_Parts_init kf_Parts_init
  have bf_Parts_init := Ff_Parts_init.binds (ps := ["self", "held"]) fun _ _ _ _ _ _ us hl => match us, hl with | [_, _], _ => rfl
  have Kf_Parts_init : Mk K cParts a_Parts_init := ⟨mkParts, af_Parts_init, if_Parts_init, kcParts⟩
  have Ff_Parts_fork := fun_mk (st := s_Parts_fork) lf_Parts_fork cf_Parts_fork kf_Parts_fork
  have bf_Parts_fork := Ff_Parts_fork.binds (ps := ["self"]) fun _ _ _ _ _ _ us hl => match us, hl with | [_], _ => rfl
  have Mf_Parts_fork : Meth K cParts "fork" a_Parts_fork := ⟨af_Parts_fork, if_Parts_fork, kf_Parts_fork⟩
  have Ff_Table_init := fun_mk (st := s_Table_init) lf_Table_init cf_Table_init kf_Table_init
  have bf_Table_init := Ff_Table_init.binds (ps := ["self"]) fun _ _ _ _ _ _ us hl => match us, hl with | [_], _ => rfl
  have Kf_Table_init : Mk K cTable a_Table_init := ⟨mkTable, af_Table_init, if_Table_init, kcTable⟩
  have Ff_Table_has := fun_mk (st := s_Table_has) lf_Table_has cf_Table_has kf_Table_has
  have bf_Table_has := Ff_Table_has.binds (ps := ["self", "key"]) fun _ _ _ _ _ _ us hl => match us, hl with | [_, _], _ => rfl
  have Mf_Table_has : Meth K cTable "has" a_Table_has := ⟨af_Table_has, if_Table_has, kf_Table_has⟩
  have Ff_Table_put := fun_mk (st := s_Table_put) lf_Table_put cf_Table_put kf_Table_put
  have bf_Table_put := Ff_Table_put.binds (ps := ["self", "key", "value"]) fun _ _ _ _ _ _ us hl => match us, hl with | [_, _, _], _ => rfl
  have Mf_Table_put : Meth K cTable "put" a_Table_put := ⟨af_Table_put, if_Table_put, kf_Table_put⟩
  have Ff_Table_pairs := fun_mk (st := s_Table_pairs) lf_Table_pairs cf_Table_pairs kf_Table_pairs
  have bf_Table_pairs := Ff_Table_pairs.binds (ps := ["self"]) fun _ _ _ _ _ _ us hl => match us, hl with | [_], _ => rfl
  have Mf_Table_pairs : Meth K cTable "pairs" a_Table_pairs := ⟨af_Table_pairs, if_Table_pairs, kf_Table_pairs⟩
  have Ff_Table_many := fun_mk (st := s_Table_many) lf_Table_many cf_Table_many kf_Table_many
  have bf_Table_many := Ff_Table_many.binds (ps := ["self"]) fun _ _ _ _ _ _ us hl => match us, hl with | [_], _ => rfl
  have Pf_Table_many : PropOf K cTable "many" p_Table_many a_Table_many := ⟨af_Table_many, pgtf_Table_many, ptkf_Table_many, _, prcf_Table_many⟩
  have Ff_Table_fork := fun_mk (st := s_Table_fork) lf_Table_fork cf_Table_fork kf_Table_fork
  have bf_Table_fork := Ff_Table_fork.binds (ps := ["self"]) fun _ _ _ _ _ _ us hl => match us, hl with | [_], _ => rfl
  have Mf_Table_fork : Meth K cTable "fork" a_Table_fork := ⟨af_Table_fork, if_Table_fork, kf_Table_fork⟩
  have Ff_Instance_init := fun_mk (st := s_Instance_init) lf_Instance_init cf_Instance_init kf_Instance_init
  have bf_Instance_init := Ff_Instance_init.binds (ps := ["self", "owner"]) fun _ _ _ _ _ _ us hl => match us, hl with | [_, _], _ => rfl
  have Kf_Instance_init : Mk K cInstance a_Instance_init := ⟨mkInstance, af_Instance_init, if_Instance_init, kcInstance⟩
  have Ff_Instance_fork := fun_mk (st := s_Instance_fork) lf_Instance_fork cf_Instance_fork kf_Instance_fork
  have bf_Instance_fork := Ff_Instance_fork.binds (ps := ["self"]) fun _ _ _ _ _ _ us hl => match us, hl with | [_], _ => rfl
  have Mf_Instance_fork : Meth K cInstance "fork" a_Instance_fork := ⟨af_Instance_fork, if_Instance_fork, kf_Instance_fork⟩
  have Ff_Kin_init := fun_mk (st := s_Kin_init) lf_Kin_init cf_Kin_init kf_Kin_init
  have bf_Kin_init := Ff_Kin_init.binds (ps := ["self", "name", "parent"]) fun _ _ _ _ _ _ us hl => match us, hl with | [_, _, _], _ => rfl
  have Kf_Kin_init : Mk K cKin a_Kin_init := ⟨mkKin, af_Kin_init, if_Kin_init, kcKin⟩
  have Ff_Kin_fork := fun_mk (st := s_Kin_fork) lf_Kin_fork cf_Kin_fork kf_Kin_fork
  have bf_Kin_fork := Ff_Kin_fork.binds (ps := ["self"]) fun _ _ _ _ _ _ us hl => match us, hl with | [_], _ => rfl
  have Mf_Kin_fork : Meth K cKin "fork" a_Kin_fork := ⟨af_Kin_fork, if_Kin_fork, kf_Kin_fork⟩
  have Ff_Cursor_init := fun_mk (st := s_Cursor_init) lf_Cursor_init cf_Cursor_init kf_Cursor_init
  have bf_Cursor_init := Ff_Cursor_init.binds (ps := ["self", "rest"]) fun _ _ _ _ _ _ us hl => match us, hl with | [_, _], _ => rfl
  have Kf_Cursor_init : Mk K cCursor a_Cursor_init := ⟨mkCursor, af_Cursor_init, if_Cursor_init, kcCursor⟩
  have Ff_Cursor_fork := fun_mk (st := s_Cursor_fork) lf_Cursor_fork cf_Cursor_fork kf_Cursor_fork
  have bf_Cursor_fork := Ff_Cursor_fork.binds (ps := ["self"]) fun _ _ _ _ _ _ us hl => match us, hl with | [_], _ => rfl
  have Mf_Cursor_fork : Meth K cCursor "fork" a_Cursor_fork := ⟨af_Cursor_fork, if_Cursor_fork, kf_Cursor_fork⟩
  have Ff_Store_init := fun_mk (st := s_Store_init) lf_Store_init cf_Store_init kf_Store_init
  have bf_Store_init := Ff_Store_init.binds (ps := ["self", "lines"]) fun _ _ _ _ _ _ us hl => match us, hl with | [_, _], _ => rfl
  have Kf_Store_init : Mk K cStore a_Store_init := ⟨mkStore, af_Store_init, if_Store_init, kcStore⟩
  have Ff_Store_make := fun_mk (st := s_Store_make) lf_Store_make cf_Store_make kf_Store_make
  have bf_Store_make := Ff_Store_make.binds (ps := ["self", "thing"]) fun _ _ _ _ _ _ us hl => match us, hl with | [_, _], _ => rfl
  have Mf_Store_make : Meth K cStore "make" a_Store_make := ⟨af_Store_make, if_Store_make, kf_Store_make⟩
  have Ff_Store_at := fun_mk (st := s_Store_at) lf_Store_at cf_Store_at kf_Store_at
  have bf_Store_at := Ff_Store_at.binds (ps := ["self", "ref"]) fun _ _ _ _ _ _ us hl => match us, hl with | [_, _], _ => rfl
  have Mf_Store_at : Meth K cStore "at" a_Store_at := ⟨af_Store_at, if_Store_at, kf_Store_at⟩
  have Ff_Store_fork := fun_mk (st := s_Store_fork) lf_Store_fork cf_Store_fork kf_Store_fork
  have bf_Store_fork := Ff_Store_fork.binds (ps := ["self"]) fun _ _ _ _ _ _ us hl => match us, hl with | [_], _ => rfl
  have Mf_Store_fork : Meth K cStore "fork" a_Store_fork := ⟨af_Store_fork, if_Store_fork, kf_Store_fork⟩
  have ciMOST_HELD : ∃ t, mg "MOST_HELD" = some (.int 1000 t) := ⟨_, PySem.W.mg_of X G qMOST_HELD⟩
  have L : Lib l.prog K mg ⟨cRef, cBuiltin, cParts, cTable, cInstance, cKin, cCursor, cStore, cLivequillError, cScriptError⟩ := ⟨PySem.W.mg_none_of X G zrange, PySem.W.mg_none_of X G zlen, PySem.W.mg_none_of X G zint, PySem.W.mg_none_of X G zstr, PySem.W.mg_none_of X G zbool, PySem.W.mg_none_of X G zisinstance, PySem.W.mg_none_of X G zlist, PySem.W.mg_none_of X G zdict, PySem.W.mg_none_of X G zabs, PySem.W.mg_none_of X G zmin, PySem.W.mg_none_of X G zmax, ⟨KlRef, PySem.W.mg_of X G uRef, tyRef⟩, nRef_number, ⟨KlBuiltin, PySem.W.mg_of X G uBuiltin, tyBuiltin⟩, nBuiltin_name, ⟨KlParts, PySem.W.mg_of X G uParts, tyParts⟩, nParts_held, ⟨KlTable, PySem.W.mg_of X G uTable, tyTable⟩, nTable__entries, ⟨KlInstance, PySem.W.mg_of X G uInstance, tyInstance⟩, nInstance_owner, nInstance_named, ⟨KlKin, PySem.W.mg_of X G uKin, tyKin⟩, nKin_name, nKin_parent, nKin_methods, ⟨KlCursor, PySem.W.mg_of X G uCursor, tyCursor⟩, nCursor_rest, ⟨KlStore, PySem.W.mg_of X G uStore, tyStore⟩, nStore_things, nStore_output, nStore_lines, nStore_taken, ⟨PySem.W.mg_of X G uLivequillError⟩, ⟨_, _, TScriptError, fun _ _ => ok_SE liScriptError ciScriptError TScriptError UScriptError, bScriptError, PySem.W.mg_of X G uScriptError, ecScriptError⟩, klScriptErrorLivequillError, k_Ref_Parts, k_Ref_Table, k_Ref_Instance, k_Ref_Kin, k_Ref_Builtin, k_Ref_bool, k_Ref_int, k_Ref_str, k_Ref_list, k_Builtin_Ref, k_Builtin_Parts, k_Builtin_Table, k_Builtin_Instance, k_Builtin_Kin, k_Builtin_bool, k_Builtin_int, k_Builtin_str, k_Builtin_list, k_Parts_Ref, k_Parts_Table, k_Parts_Instance, k_Parts_Kin, k_Parts_Builtin, k_Parts_bool, k_Parts_int, k_Parts_str, k_Parts_list, k_Table_Ref, k_Table_Parts, k_Table_Instance, k_Table_Kin, k_Table_Builtin, k_Table_bool, k_Table_int, k_Table_str, k_Table_list, k_Instance_Ref, k_Instance_Parts, k_Instance_Table, k_Instance_Kin, k_Instance_Builtin, k_Instance_bool, k_Instance_int, k_Instance_str, k_Instance_list, k_Kin_Ref, k_Kin_Parts, k_Kin_Table, k_Kin_Instance, k_Kin_Builtin, k_Kin_bool, k_Kin_int, k_Kin_str, k_Kin_list, k_Cursor_Ref, k_Cursor_Parts, k_Cursor_Table, k_Cursor_Instance, k_Cursor_Kin, k_Cursor_Builtin, k_Cursor_bool, k_Cursor_int, k_Cursor_str, k_Cursor_list, k_Store_Ref, k_Store_Parts, k_Store_Table, k_Store_Instance, k_Store_Kin, k_Store_Builtin, k_Store_bool, k_Store_int, k_Store_str, k_Store_list, k_NoneType_Ref, k_NoneType_Parts, k_NoneType_Table, k_NoneType_Instance, k_NoneType_Kin, k_NoneType_Builtin, k_bool_Ref, k_bool_Parts, k_bool_Table, k_bool_Instance, k_bool_Kin, k_bool_Builtin, k_int_Ref, k_int_Parts, k_int_Table, k_int_Instance, k_int_Kin, k_int_Builtin, k_str_Ref, k_str_Parts, k_str_Table, k_str_Instance, k_str_Kin, k_str_Builtin, k_tuple_Ref, k_tuple_Parts, k_tuple_Table, k_tuple_Instance, k_tuple_Kin, k_tuple_Builtin, k_list_Ref, k_list_Parts, k_list_Table, k_list_Instance, k_list_Kin, k_list_Builtin, nf_Ref_NoneType, su_Ref_NoneType, nf_Ref_int, su_Ref_int, nf_Ref_str, su_Ref_str, nf_Ref_tuple, su_Ref_tuple, nf_Ref_list, su_Ref_list, nf_Ref_Builtin, nf_Ref_Parts, nf_Ref_Table, nf_Ref_Instance, nf_Ref_Kin, nf_Ref_Cursor, nf_Ref_Store, nf_Builtin_NoneType, su_Builtin_NoneType, nf_Builtin_int, su_Builtin_int, nf_Builtin_str, su_Builtin_str, nf_Builtin_tuple, su_Builtin_tuple, nf_Builtin_list, su_Builtin_list, nf_Builtin_Ref, nf_Builtin_Parts, nf_Builtin_Table, nf_Builtin_Instance, nf_Builtin_Kin, nf_Builtin_Cursor, nf_Builtin_Store, ciMOST_HELD, ⟨_, _, Ff_tagged, bf_tagged, glf_tagged⟩, ⟨_, _, Ff_kind_of, bf_kind_of, glf_kind_of⟩, ⟨_, _, Ff_kind_of_thing, bf_kind_of_thing, glf_kind_of_thing⟩, ⟨_, _, Ff_is_key, bf_is_key, glf_is_key⟩, ⟨_, _, Ff_check_size, bf_check_size, glf_check_size⟩, ⟨_, _, Ff_check_key, bf_check_key, glf_check_key⟩, ⟨_, _, Ff_put_entry, bf_put_entry, glf_put_entry⟩, ⟨_, _, Ff_make_list, bf_make_list, glf_make_list⟩, ⟨_, _, Ff_make_map, bf_make_map, glf_make_map⟩, ⟨_, _, Ff_make_cursor, bf_make_cursor, glf_make_cursor⟩, ⟨_, _, Ff_next_of, bf_next_of, glf_next_of⟩, ⟨_, _, Ff_law_cell, bf_law_cell, glf_law_cell⟩, ⟨_, _, Ff_law_begin, bf_law_begin, glf_law_begin⟩, ⟨_, _, Ff_law_draw, bf_law_draw, glf_law_draw⟩, ⟨_, _, Ff_law_pick, bf_law_pick, glf_law_pick⟩, ⟨_, _, Ff_law_source, bf_law_source, glf_law_source⟩, ⟨_, _, Ff_law_same, bf_law_same, glf_law_same⟩, ⟨_, _, Ff_law_spoilt, bf_law_spoilt, glf_law_spoilt⟩, ⟨_, _, Ff_law_refused, bf_law_refused, glf_law_refused⟩, ⟨_, _, Ff_Ref_init, bf_Ref_init, Kf_Ref_init⟩, ⟨_, _, Ff_Ref_eq, bf_Ref_eq, ⟨af_Ref_eq, if_Ref_eq⟩⟩, ⟨_, _, Ff_Builtin_init, bf_Builtin_init, Kf_Builtin_init⟩, ⟨_, _, Ff_Builtin_eq, bf_Builtin_eq, ⟨af_Builtin_eq, if_Builtin_eq⟩⟩, ⟨_, _, Ff_Parts_init, bf_Parts_init, Kf_Parts_init⟩, ⟨_, _, Ff_Parts_fork, bf_Parts_fork, Mf_Parts_fork⟩, ⟨_, _, Ff_Table_init, bf_Table_init, Kf_Table_init⟩, ⟨_, _, Ff_Table_has, bf_Table_has, Mf_Table_has⟩, ⟨_, _, Ff_Table_put, bf_Table_put, Mf_Table_put⟩, ⟨_, _, Ff_Table_pairs, bf_Table_pairs, Mf_Table_pairs⟩, ⟨_, _, _, Ff_Table_many, bf_Table_many, Pf_Table_many⟩, ⟨_, _, Ff_Table_fork, bf_Table_fork, Mf_Table_fork⟩, ⟨_, _, Ff_Instance_init, bf_Instance_init, Kf_Instance_init⟩, ⟨_, _, Ff_Instance_fork, bf_Instance_fork, Mf_Instance_fork⟩, ⟨_, _, Ff_Kin_init, bf_Kin_init, Kf_Kin_init⟩, ⟨_, _, Ff_Kin_fork, bf_Kin_fork, Mf_Kin_fork⟩, ⟨_, _, Ff_Cursor_init, bf_Cursor_init, Kf_Cursor_init⟩, ⟨_, _, Ff_Cursor_fork, bf_Cursor_fork, Mf_Cursor_fork⟩, ⟨_, _, Ff_Store_init, bf_Store_init, Kf_Store_init⟩, ⟨_, _, Ff_Store_make, bf_Store_make, Mf_Store_make⟩, ⟨_, _, Ff_Store_at, bf_Store_at, Mf_Store_at⟩, ⟨_, _, Ff_Store_fork, bf_Store_fork, Mf_Store_fork⟩⟩
  exact ⟨PySem.W.fnOf "law" "law" (defArgs s_law) (defBody s_law) (defScope s_law) .none kVlaw dclaw pmlaw anlaw cdlaw ctlaw, fun s v => .of_eq rfl, fun base _ _ => ok_law Flaw L⟩
end My
open PySem PySem.W PyProof.Rows
set_option maxRecDepth 100000 in
set_option maxHeartbeats 0 in
theorem PySem.Challenge.cw_livequill_k29_iterators_holds : PySem.Challenge.rw_livequill_k29_iterators.Holds := by
  w_on; o_law; k_head; (case hw => w_witness2)
  k_fill
  refine L2.walk_of (l := PySem.Challenge.rw_livequill_k29_iterators) (n := 63) (k := 6) (x := "script") (CX := fun _ => L2.CX0) (sp := fun w => My.spLaw _) rfl (by decide) rfl ⟨rfl, by decide, by decide⟩ (fun w h Y => PySem.W.kIn_of Y) ?F (fun _ _ a ns hl _ hS => ⟨a, ns, rfl, hS, hl, fun _ => rfl⟩) (fun _ _ _ _ _ h => h)
  case F =>
    intro w mg fa h KX G hmg
    refine' My.all_mk KX G hmg ?uRef ?mkRef ?kcRef ?pgRef ?hdRef ?poRef ?saRef ?nRef_number ?hnTy ?htTy ?haRef ?hmRef ?uBuiltin ?mkBuiltin ?kcBuiltin ?pgBuiltin ?hdBuiltin ?poBuiltin ?saBuiltin ?nBuiltin_name ?haBuiltin ?hmBuiltin ?uParts ?mkParts ?kcParts ?pgParts ?hdParts ?poParts ?saParts ?nParts_held ?haParts ?hmParts ?uTable ?mkTable ?kcTable ?pgTable ?hdTable ?poTable ?saTable ?nTable__entries ?haTable ?hmTable ?uInstance ?mkInstance ?kcInstance ?pgInstance ?hdInstance ?poInstance ?saInstance ?nInstance_owner ?nInstance_named ?haInstance ?hmInstance ?uKin ?mkKin ?kcKin ?pgKin ?hdKin ?poKin ?saKin ?nKin_name ?nKin_parent ?nKin_methods ?haKin ?hmKin ?uCursor ?mkCursor ?kcCursor ?pgCursor ?hdCursor ?poCursor ?saCursor ?nCursor_rest ?haCursor ?hmCursor ?uStore ?mkStore ?kcStore ?pgStore ?hdStore ?poStore ?saStore ?nStore_things ?nStore_output ?nStore_lines ?nStore_taken ?haStore ?hmStore ?uLivequillError ?uScriptError ?xScriptError ?saScriptError ?exScriptError ?tpScriptError ?kpScriptError ?n1ScriptError ?n2ScriptError ?iScriptError ?tiScriptError ?gaScriptError ?ggScriptError ?hdScriptError ?ssScriptError ?liScriptError ?ciScriptError ?coScriptError ?cvScriptError ?fiScriptError ?ceScriptError ?toSup ?suSup ?opSup ?mrScriptError ?ksScriptError ?vaScriptError ?haScriptError ?hmScriptError ?klScriptErrorLivequillError ?af_tagged ?lf_tagged ?cf_tagged ?kf_tagged ?af_kind_of ?lf_kind_of ?cf_kind_of ?kf_kind_of ?af_kind_of_thing ?lf_kind_of_thing ?cf_kind_of_thing ?kf_kind_of_thing ?af_is_key ?lf_is_key ?cf_is_key ?kf_is_key ?af_check_size ?lf_check_size ?cf_check_size ?kf_check_size ?af_check_key ?lf_check_key ?cf_check_key ?kf_check_key ?af_put_entry ?lf_put_entry ?cf_put_entry ?kf_put_entry ?af_make_list ?lf_make_list ?cf_make_list ?kf_make_list ?af_make_map ?lf_make_map ?cf_make_map ?kf_make_map ?af_make_cursor ?lf_make_cursor ?cf_make_cursor ?kf_make_cursor ?af_next_of ?lf_next_of ?cf_next_of ?kf_next_of ?af_law_cell ?lf_law_cell ?cf_law_cell ?kf_law_cell ?af_law_begin ?lf_law_begin ?cf_law_begin ?kf_law_begin ?af_law_draw ?lf_law_draw ?cf_law_draw ?kf_law_draw ?af_law_pick ?lf_law_pick ?cf_law_pick ?kf_law_pick ?af_law_source ?lf_law_source ?cf_law_source ?kf_law_source ?af_law_same ?lf_law_same ?cf_law_same ?kf_law_same ?af_law_spoilt ?lf_law_spoilt ?cf_law_spoilt ?kf_law_spoilt ?af_law_refused ?lf_law_refused ?cf_law_refused ?kf_law_refused ?alaw ?llaw ?claw ?klaw ?af_Ref_init ?if_Ref_init ?lf_Ref_init ?cf_Ref_init ?kf_Ref_init ?af_Ref_eq ?if_Ref_eq ?lf_Ref_eq ?cf_Ref_eq ?kf_Ref_eq ?af_Builtin_init ?if_Builtin_init ?lf_Builtin_init ?cf_Builtin_init ?kf_Builtin_init ?af_Builtin_eq ?if_Builtin_eq ?lf_Builtin_eq ?cf_Builtin_eq ?kf_Builtin_eq ?af_Parts_init ?if_Parts_init ?lf_Parts_init ?cf_Parts_init ?kf_Parts_init ?af_Parts_fork ?if_Parts_fork ?lf_Parts_fork ?cf_Parts_fork ?kf_Parts_fork ?af_Table_init ?if_Table_init ?lf_Table_init ?cf_Table_init ?kf_Table_init ?af_Table_has ?if_Table_has ?lf_Table_has ?cf_Table_has ?kf_Table_has ?af_Table_put ?if_Table_put ?lf_Table_put ?cf_Table_put ?kf_Table_put ?af_Table_pairs ?if_Table_pairs ?lf_Table_pairs ?cf_Table_pairs ?kf_Table_pairs ?af_Table_many ?pgtf_Table_many ?ptkf_Table_many ?prcf_Table_many ?lf_Table_many ?cf_Table_many ?kf_Table_many ?af_Table_fork ?if_Table_fork ?lf_Table_fork ?cf_Table_fork ?kf_Table_fork ?af_Instance_init ?if_Instance_init ?lf_Instance_init ?cf_Instance_init ?kf_Instance_init ?af_Instance_fork ?if_Instance_fork ?lf_Instance_fork ?cf_Instance_fork ?kf_Instance_fork ?af_Kin_init ?if_Kin_init ?lf_Kin_init ?cf_Kin_init ?kf_Kin_init ?af_Kin_fork ?if_Kin_fork ?lf_Kin_fork ?cf_Kin_fork ?kf_Kin_fork ?af_Cursor_init ?if_Cursor_init ?lf_Cursor_init ?cf_Cursor_init ?kf_Cursor_init ?af_Cursor_fork ?if_Cursor_fork ?lf_Cursor_fork ?cf_Cursor_fork ?kf_Cursor_fork ?af_Store_init ?if_Store_init ?lf_Store_init ?cf_Store_init ?kf_Store_init ?af_Store_make ?if_Store_make ?lf_Store_make ?cf_Store_make ?kf_Store_make ?af_Store_at ?if_Store_at ?lf_Store_at ?cf_Store_at ?kf_Store_at ?af_Store_fork ?if_Store_fork ?lf_Store_fork ?cf_Store_fork ?kf_Store_fork ?qMOST_HELD ?k_Ref_Parts ?k_Ref_Table ?k_Ref_Instance ?k_Ref_Kin ?k_Ref_Builtin ?k_Ref_bool ?k_Ref_int ?k_Ref_str ?k_Ref_list ?k_Builtin_Ref ?k_Builtin_Parts ?k_Builtin_Table ?k_Builtin_Instance ?k_Builtin_Kin ?k_Builtin_bool ?k_Builtin_int ?k_Builtin_str ?k_Builtin_list ?k_Parts_Ref ?k_Parts_Table ?k_Parts_Instance ?k_Parts_Kin ?k_Parts_Builtin ?k_Parts_bool ?k_Parts_int ?k_Parts_str ?k_Parts_list ?k_Table_Ref ?k_Table_Parts ?k_Table_Instance ?k_Table_Kin ?k_Table_Builtin ?k_Table_bool ?k_Table_int ?k_Table_str ?k_Table_list ?k_Instance_Ref ?k_Instance_Parts ?k_Instance_Table ?k_Instance_Kin ?k_Instance_Builtin ?k_Instance_bool ?k_Instance_int ?k_Instance_str ?k_Instance_list ?k_Kin_Ref ?k_Kin_Parts ?k_Kin_Table ?k_Kin_Instance ?k_Kin_Builtin ?k_Kin_bool ?k_Kin_int ?k_Kin_str ?k_Kin_list ?k_Cursor_Ref ?k_Cursor_Parts ?k_Cursor_Table ?k_Cursor_Instance ?k_Cursor_Kin ?k_Cursor_Builtin ?k_Cursor_bool ?k_Cursor_int ?k_Cursor_str ?k_Cursor_list ?k_Store_Ref ?k_Store_Parts ?k_Store_Table ?k_Store_Instance ?k_Store_Kin ?k_Store_Builtin ?k_Store_bool ?k_Store_int ?k_Store_str ?k_Store_list ?k_NoneType_Ref ?k_NoneType_Parts ?k_NoneType_Table ?k_NoneType_Instance ?k_NoneType_Kin ?k_NoneType_Builtin ?k_bool_Ref ?k_bool_Parts ?k_bool_Table ?k_bool_Instance ?k_bool_Kin ?k_bool_Builtin ?k_int_Ref ?k_int_Parts ?k_int_Table ?k_int_Instance ?k_int_Kin ?k_int_Builtin ?k_str_Ref ?k_str_Parts ?k_str_Table ?k_str_Instance ?k_str_Kin ?k_str_Builtin ?k_tuple_Ref ?k_tuple_Parts ?k_tuple_Table ?k_tuple_Instance ?k_tuple_Kin ?k_tuple_Builtin ?k_list_Ref ?k_list_Parts ?k_list_Table ?k_list_Instance ?k_list_Kin ?k_list_Builtin ?nf_Ref_NoneType ?su_Ref_NoneType ?nf_Ref_int ?su_Ref_int ?nf_Ref_str ?su_Ref_str ?nf_Ref_tuple ?su_Ref_tuple ?nf_Ref_list ?su_Ref_list ?nf_Ref_Builtin ?nf_Ref_Parts ?nf_Ref_Table ?nf_Ref_Instance ?nf_Ref_Kin ?nf_Ref_Cursor ?nf_Ref_Store ?nf_Builtin_NoneType ?su_Builtin_NoneType ?nf_Builtin_int ?su_Builtin_int ?nf_Builtin_str ?su_Builtin_str ?nf_Builtin_tuple ?su_Builtin_tuple ?nf_Builtin_list ?su_Builtin_list ?nf_Builtin_Ref ?nf_Builtin_Parts ?nf_Builtin_Table ?nf_Builtin_Instance ?nf_Builtin_Kin ?nf_Builtin_Cursor ?nf_Builtin_Store ?zrange ?zlen ?zint ?zstr ?zbool ?zisinstance ?zlist ?zdict ?zabs ?zmin ?zmax
    (case uRef => k_is)
    (case mkRef => k_is)
    (case kcRef => k_is)
    (case pgRef => k_is)
    (case hdRef => k_is)
    (case poRef => k_is)
    (case saRef => k_is)
    (case nRef_number => k_is)
    (case hnTy => k_is)
    (case htTy => k_is)
    (case haRef => k_is)
    (case hmRef => k_is)
    (case uBuiltin => k_is)
    (case mkBuiltin => k_is)
    (case kcBuiltin => k_is)
    (case pgBuiltin => k_is)
    (case hdBuiltin => k_is)
    (case poBuiltin => k_is)
    (case saBuiltin => k_is)
    (case nBuiltin_name => k_is)
    (case haBuiltin => k_is)
    (case hmBuiltin => k_is)
    (case uParts => k_is)
    (case mkParts => k_is)
    (case kcParts => k_is)
    (case pgParts => k_is)
    (case hdParts => k_is)
    (case poParts => k_is)
    (case saParts => k_is)
    (case nParts_held => k_is)
    (case haParts => k_is)
    (case hmParts => k_is)
    (case uTable => k_is)
    (case mkTable => k_is)
    (case kcTable => k_is)
    (case pgTable => k_is)
    (case hdTable => k_is)
    (case poTable => k_is)
    (case saTable => k_is)
    (case nTable__entries => k_is)
    (case haTable => k_is)
    (case hmTable => k_is)
    (case uInstance => k_is)
    (case mkInstance => k_is)
    (case kcInstance => k_is)
    (case pgInstance => k_is)
    (case hdInstance => k_is)
    (case poInstance => k_is)
    (case saInstance => k_is)
    (case nInstance_owner => k_is)
    (case nInstance_named => k_is)
    (case haInstance => k_is)
    (case hmInstance => k_is)
    (case uKin => k_is)
    (case mkKin => k_is)
    (case kcKin => k_is)
    (case pgKin => k_is)
    (case hdKin => k_is)
    (case poKin => k_is)
    (case saKin => k_is)
    (case nKin_name => k_is)
    (case nKin_parent => k_is)
    (case nKin_methods => k_is)
    (case haKin => k_is)
    (case hmKin => k_is)
    (case uCursor => k_is)
    (case mkCursor => k_is)
    (case kcCursor => k_is)
    (case pgCursor => k_is)
    (case hdCursor => k_is)
    (case poCursor => k_is)
    (case saCursor => k_is)
    (case nCursor_rest => k_is)
    (case haCursor => k_is)
    (case hmCursor => k_is)
    (case uStore => k_is)
    (case mkStore => k_is)
    (case kcStore => k_is)
    (case pgStore => k_is)
    (case hdStore => k_is)
    (case poStore => k_is)
    (case saStore => k_is)
    (case nStore_things => k_is)
    (case nStore_output => k_is)
    (case nStore_lines => k_is)
    (case nStore_taken => k_is)
    (case haStore => k_is)
    (case hmStore => k_is)
    (case uLivequillError => k_is)
    (case uScriptError => k_is)
    (case xScriptError => k_is)
    (case saScriptError => k_is)
    (case exScriptError => k_is)
    (case tpScriptError => k_is)
    (case kpScriptError => k_is)
    (case n1ScriptError => k_is)
    (case n2ScriptError => k_is)
    (case iScriptError => k_is)
    (case tiScriptError => k_is)
    (case gaScriptError => k_is)
    (case ggScriptError => k_is)
    (case hdScriptError => k_is)
    (case ssScriptError => first | rfl | k_is)
    (case liScriptError => k_is)
    (case ciScriptError => k_is)
    (case coScriptError => k_is)
    (case cvScriptError => rfl)
    (case fiScriptError => first | rfl | decide +kernel)
    (case ceScriptError => k_is)
    (case toSup => first | rfl | decide +kernel)
    (case suSup => k_is)
    (case opSup => k_is)
    (case mrScriptError => k_is)
    (case ksScriptError => ks_is)
    (case vaScriptError => k_is)
    (case haScriptError => k_is)
    (case hmScriptError => k_is)
    (case klScriptErrorLivequillError => kit_is)
    (case af_tagged => k_is)
    (case lf_tagged => k_is)
    (case cf_tagged => k_is)
    (case kf_tagged => k_is)
    (case af_kind_of => k_is)
    (case lf_kind_of => k_is)
    (case cf_kind_of => k_is)
    (case kf_kind_of => k_is)
    (case af_kind_of_thing => k_is)
    (case lf_kind_of_thing => k_is)
    (case cf_kind_of_thing => k_is)
    (case kf_kind_of_thing => k_is)
    (case af_is_key => k_is)
    (case lf_is_key => k_is)
    (case cf_is_key => k_is)
    (case kf_is_key => k_is)
    (case af_check_size => k_is)
    (case lf_check_size => k_is)
    (case cf_check_size => k_is)
    (case kf_check_size => k_is)
    (case af_check_key => k_is)
    (case lf_check_key => k_is)
    (case cf_check_key => k_is)
    (case kf_check_key => k_is)
    (case af_put_entry => k_is)
    (case lf_put_entry => k_is)
    (case cf_put_entry => k_is)
    (case kf_put_entry => k_is)
    (case af_make_list => k_is)
    (case lf_make_list => k_is)
    (case cf_make_list => k_is)
    (case kf_make_list => k_is)
    (case af_make_map => k_is)
    (case lf_make_map => k_is)
    (case cf_make_map => k_is)
    (case kf_make_map => k_is)
    (case af_make_cursor => k_is)
    (case lf_make_cursor => k_is)
    (case cf_make_cursor => k_is)
    (case kf_make_cursor => k_is)
    (case af_next_of => k_is)
    (case lf_next_of => k_is)
    (case cf_next_of => k_is)
    (case kf_next_of => k_is)
    (case af_law_cell => k_is)
    (case lf_law_cell => k_is)
    (case cf_law_cell => k_is)
    (case kf_law_cell => k_is)
    (case af_law_begin => k_is)
    (case lf_law_begin => k_is)
    (case cf_law_begin => k_is)
    (case kf_law_begin => k_is)
    (case af_law_draw => k_is)
    (case lf_law_draw => k_is)
    (case cf_law_draw => k_is)
    (case kf_law_draw => k_is)
    (case af_law_pick => k_is)
    (case lf_law_pick => k_is)
    (case cf_law_pick => k_is)
    (case kf_law_pick => k_is)
    (case af_law_source => k_is)
    (case lf_law_source => k_is)
    (case cf_law_source => k_is)
    (case kf_law_source => k_is)
    (case af_law_same => k_is)
    (case lf_law_same => k_is)
    (case cf_law_same => k_is)
    (case kf_law_same => k_is)
    (case af_law_spoilt => k_is)
    (case lf_law_spoilt => k_is)
    (case cf_law_spoilt => k_is)
    (case kf_law_spoilt => k_is)
    (case af_law_refused => k_is)
    (case lf_law_refused => k_is)
    (case cf_law_refused => k_is)
    (case kf_law_refused => k_is)
    (case alaw => k_is)
    (case llaw => k_is)
    (case claw => k_is)
    (case klaw => k_is)
    (case af_Ref_init => k_is)
    (case if_Ref_init => k_is)
    (case lf_Ref_init => k_is)
    (case cf_Ref_init => k_is)
    (case kf_Ref_init => k_is)
    (case af_Ref_eq => k_is)
    (case if_Ref_eq => k_is)
    (case lf_Ref_eq => k_is)
    (case cf_Ref_eq => k_is)
    (case kf_Ref_eq => k_is)
    (case af_Builtin_init => k_is)
    (case if_Builtin_init => k_is)
    (case lf_Builtin_init => k_is)
    (case cf_Builtin_init => k_is)
    (case kf_Builtin_init => k_is)
    (case af_Builtin_eq => k_is)
    (case if_Builtin_eq => k_is)
    (case lf_Builtin_eq => k_is)
    (case cf_Builtin_eq => k_is)
    (case kf_Builtin_eq => k_is)
    (case af_Parts_init => k_is)
    (case if_Parts_init => k_is)
    (case lf_Parts_init => k_is)
    (case cf_Parts_init => k_is)
    (case kf_Parts_init => k_is)
    (case af_Parts_fork => k_is)
    (case if_Parts_fork => k_is)
    (case lf_Parts_fork => k_is)
    (case cf_Parts_fork => k_is)
    (case kf_Parts_fork => k_is)
    (case af_Table_init => k_is)
    (case if_Table_init => k_is)
    (case lf_Table_init => k_is)
    (case cf_Table_init => k_is)
    (case kf_Table_init => k_is)
    (case af_Table_has => k_is)
    (case if_Table_has => k_is)
    (case lf_Table_has => k_is)
    (case cf_Table_has => k_is)
    (case kf_Table_has => k_is)
    (case af_Table_put => k_is)
    (case if_Table_put => k_is)
    (case lf_Table_put => k_is)
    (case cf_Table_put => k_is)
    (case kf_Table_put => k_is)
    (case af_Table_pairs => k_is)
    (case if_Table_pairs => k_is)
    (case lf_Table_pairs => k_is)
    (case cf_Table_pairs => k_is)
    (case kf_Table_pairs => k_is)
    (case af_Table_many => k_is)
    (case pgtf_Table_many => k_is)
    (case ptkf_Table_many => k_is)
    (case prcf_Table_many => k_is)
    (case lf_Table_many => k_is)
    (case cf_Table_many => k_is)
    (case kf_Table_many => k_is)
    (case af_Table_fork => k_is)
    (case if_Table_fork => k_is)
    (case lf_Table_fork => k_is)
    (case cf_Table_fork => k_is)
    (case kf_Table_fork => k_is)
    (case af_Instance_init => k_is)
    (case if_Instance_init => k_is)
    (case lf_Instance_init => k_is)
    (case cf_Instance_init => k_is)
    (case kf_Instance_init => k_is)
    (case af_Instance_fork => k_is)
    (case if_Instance_fork => k_is)
    (case lf_Instance_fork => k_is)
    (case cf_Instance_fork => k_is)
    (case kf_Instance_fork => k_is)
    (case af_Kin_init => k_is)
    (case if_Kin_init => k_is)
    (case lf_Kin_init => k_is)
    (case cf_Kin_init => k_is)
    (case kf_Kin_init => k_is)
    (case af_Kin_fork => k_is)
    (case if_Kin_fork => k_is)
    (case lf_Kin_fork => k_is)
    (case cf_Kin_fork => k_is)
    (case kf_Kin_fork => k_is)
    (case af_Cursor_init => k_is)
    (case if_Cursor_init => k_is)
    (case lf_Cursor_init => k_is)
    (case cf_Cursor_init => k_is)
    (case kf_Cursor_init => k_is)
    (case af_Cursor_fork => k_is)
    (case if_Cursor_fork => k_is)
    (case lf_Cursor_fork => k_is)
    (case cf_Cursor_fork => k_is)
    (case kf_Cursor_fork => k_is)
    (case af_Store_init => k_is)
    (case if_Store_init => k_is)
    (case lf_Store_init => k_is)
    (case cf_Store_init => k_is)
    (case kf_Store_init => k_is)
    (case af_Store_make => k_is)
    (case if_Store_make => k_is)
    (case lf_Store_make => k_is)
    (case cf_Store_make => k_is)
    (case kf_Store_make => k_is)
    (case af_Store_at => k_is)
    (case if_Store_at => k_is)
    (case lf_Store_at => k_is)
    (case cf_Store_at => k_is)
    (case kf_Store_at => k_is)
    (case af_Store_fork => k_is)
    (case if_Store_fork => k_is)
    (case lf_Store_fork => k_is)
    (case cf_Store_fork => k_is)
    (case kf_Store_fork => k_is)
    (case qMOST_HELD => k_is)
    (case k_Ref_Parts => kit_is)
    (case k_Ref_Table => kit_is)
    (case k_Ref_Instance => kit_is)
    (case k_Ref_Kin => kit_is)
    (case k_Ref_Builtin => kit_is)
    (case k_Ref_bool => kit_is)
    (case k_Ref_int => kit_is)
    (case k_Ref_str => kit_is)
    (case k_Ref_list => kit_is)
    (case k_Builtin_Ref => kit_is)
    (case k_Builtin_Parts => kit_is)
    (case k_Builtin_Table => kit_is)
    (case k_Builtin_Instance => kit_is)
    (case k_Builtin_Kin => kit_is)
    (case k_Builtin_bool => kit_is)
    (case k_Builtin_int => kit_is)
    (case k_Builtin_str => kit_is)
    (case k_Builtin_list => kit_is)
    (case k_Parts_Ref => kit_is)
    (case k_Parts_Table => kit_is)
    (case k_Parts_Instance => kit_is)
    (case k_Parts_Kin => kit_is)
    (case k_Parts_Builtin => kit_is)
    (case k_Parts_bool => kit_is)
    (case k_Parts_int => kit_is)
    (case k_Parts_str => kit_is)
    (case k_Parts_list => kit_is)
    (case k_Table_Ref => kit_is)
    (case k_Table_Parts => kit_is)
    (case k_Table_Instance => kit_is)
    (case k_Table_Kin => kit_is)
    (case k_Table_Builtin => kit_is)
    (case k_Table_bool => kit_is)
    (case k_Table_int => kit_is)
    (case k_Table_str => kit_is)
    (case k_Table_list => kit_is)
    (case k_Instance_Ref => kit_is)
    (case k_Instance_Parts => kit_is)
    (case k_Instance_Table => kit_is)
    (case k_Instance_Kin => kit_is)
    (case k_Instance_Builtin => kit_is)
    (case k_Instance_bool => kit_is)
    (case k_Instance_int => kit_is)
    (case k_Instance_str => kit_is)
    (case k_Instance_list => kit_is)
    (case k_Kin_Ref => kit_is)
    (case k_Kin_Parts => kit_is)
    (case k_Kin_Table => kit_is)
    (case k_Kin_Instance => kit_is)
    (case k_Kin_Builtin => kit_is)
    (case k_Kin_bool => kit_is)
    (case k_Kin_int => kit_is)
    (case k_Kin_str => kit_is)
    (case k_Kin_list => kit_is)
    (case k_Cursor_Ref => kit_is)
    (case k_Cursor_Parts => kit_is)
    (case k_Cursor_Table => kit_is)
    (case k_Cursor_Instance => kit_is)
    (case k_Cursor_Kin => kit_is)
    (case k_Cursor_Builtin => kit_is)
    (case k_Cursor_bool => kit_is)
    (case k_Cursor_int => kit_is)
    (case k_Cursor_str => kit_is)
    (case k_Cursor_list => kit_is)
    (case k_Store_Ref => kit_is)
    (case k_Store_Parts => kit_is)
    (case k_Store_Table => kit_is)
    (case k_Store_Instance => kit_is)
    (case k_Store_Kin => kit_is)
    (case k_Store_Builtin => kit_is)
    (case k_Store_bool => kit_is)
    (case k_Store_int => kit_is)
    (case k_Store_str => kit_is)
    (case k_Store_list => kit_is)
    (case k_NoneType_Ref => kit_is)
    (case k_NoneType_Parts => kit_is)
    (case k_NoneType_Table => kit_is)
    (case k_NoneType_Instance => kit_is)
    (case k_NoneType_Kin => kit_is)
    (case k_NoneType_Builtin => kit_is)
    (case k_bool_Ref => kit_is)
    (case k_bool_Parts => kit_is)
    (case k_bool_Table => kit_is)
    (case k_bool_Instance => kit_is)
    (case k_bool_Kin => kit_is)
    (case k_bool_Builtin => kit_is)
    (case k_int_Ref => kit_is)
    (case k_int_Parts => kit_is)
    (case k_int_Table => kit_is)
    (case k_int_Instance => kit_is)
    (case k_int_Kin => kit_is)
    (case k_int_Builtin => kit_is)
    (case k_str_Ref => kit_is)
    (case k_str_Parts => kit_is)
    (case k_str_Table => kit_is)
    (case k_str_Instance => kit_is)
    (case k_str_Kin => kit_is)
    (case k_str_Builtin => kit_is)
    (case k_tuple_Ref => kit_is)
    (case k_tuple_Parts => kit_is)
    (case k_tuple_Table => kit_is)
    (case k_tuple_Instance => kit_is)
    (case k_tuple_Kin => kit_is)
    (case k_tuple_Builtin => kit_is)
    (case k_list_Ref => kit_is)
    (case k_list_Parts => kit_is)
    (case k_list_Table => kit_is)
    (case k_list_Instance => kit_is)
    (case k_list_Kin => kit_is)
    (case k_list_Builtin => kit_is)
    (case nf_Ref_NoneType => k_is)
    (case su_Ref_NoneType => k_is)
    (case nf_Ref_int => k_is)
    (case su_Ref_int => k_is)
    (case nf_Ref_str => k_is)
    (case su_Ref_str => k_is)
    (case nf_Ref_tuple => k_is)
    (case su_Ref_tuple => k_is)
    (case nf_Ref_list => k_is)
    (case su_Ref_list => k_is)
    (case nf_Ref_Builtin => k_is)
    (case nf_Ref_Parts => k_is)
    (case nf_Ref_Table => k_is)
    (case nf_Ref_Instance => k_is)
    (case nf_Ref_Kin => k_is)
    (case nf_Ref_Cursor => k_is)
    (case nf_Ref_Store => k_is)
    (case nf_Builtin_NoneType => k_is)
    (case su_Builtin_NoneType => k_is)
    (case nf_Builtin_int => k_is)
    (case su_Builtin_int => k_is)
    (case nf_Builtin_str => k_is)
    (case su_Builtin_str => k_is)
    (case nf_Builtin_tuple => k_is)
    (case su_Builtin_tuple => k_is)
    (case nf_Builtin_list => k_is)
    (case su_Builtin_list => k_is)
    (case nf_Builtin_Ref => k_is)
    (case nf_Builtin_Parts => k_is)
    (case nf_Builtin_Table => k_is)
    (case nf_Builtin_Instance => k_is)
    (case nf_Builtin_Kin => k_is)
    (case nf_Builtin_Cursor => k_is)
    (case nf_Builtin_Store => k_is)
    (case zrange => k_is)
    (case zlen => k_is)
    (case zint => k_is)
    (case zstr => k_is)
    (case zbool => k_is)
    (case zisinstance => k_is)
    (case zlist => k_is)
    (case zdict => k_is)
    (case zabs => k_is)
    (case zmin => k_is)
    (case zmax => k_is)
