import PyProof.Rows.All
import Wide.All
import OpenK.AllK
import Wide.FinOn
import HandS.ForMost
import HandS.ForExc
import HandS.StrMore
import HandS.IsInst
import HandS.Codes
import HandS.Flow
import HandS.More
import HandS.Walk
import HandS.OwnEq
import HandS.Style
import PyProof.Raises
import KE.RegKIsAll
import KE.KSuper
import KE.KExcSuper
import HandS.ExcInit
import HandS.Nested
import HandS.FStr
import HandS.ExcField
import HandS.ExcIs
import HandS.Wide
import HandS.WideBits
import HandS.Deep
import HandS.CallLocal
import HandS.CallSlots
import HandS.Star
import HandS.TupLen
import HandS.Property
import KE.KStar
import KE.KeyNested
import KE.KDictCopyH
import KE.KDictList
import PyProof.StrBlock2
import HandS.Conv
import KE.KDictWalk
import PyProof.DictValues
import PyProof.DictRoadsH
import PyProof.DictMoreH
import PyProof.Rows.TupTab
import PySem.Challenge.RW_livequill_k30_tables_and_errors
set_option Elab.async false
set_option linter.all false
set_option maxRecDepth 100000
namespace XS
open PySem PySem.W PySem.Calls PyProof.Rows L2 NdefX
/-! ### an own exception whose __init__ begins with super().__init__(e), over ValueError -/
/-- what the written part says: of the def at fI (its code object at cda, its cell at cc), of the class D in which it is written, and of the class C that is made -/
structure Sup (prog : Program) (K : Frag) (mg : Str → Option Value) (cda cc D C : Addr) : Prop where
  code : ∃ ccl cdd vs ccs file tf, K.lookup cda = some ⟨ccl, cdd, .fields vs, ccs⟩ ∧ vs[2]? = some (.str file tf) ∧ ((prog.main.file : Str) == file) = true
  cell : ∃ cl cld csl, K.lookup cc = some ⟨cl, cld, .cell (some (.ref D)), csl⟩
  top : (prog.main.scope.names.lookup ("super" : Str)).isSome = false
  sup : mg "super" = none
  cls : ∃ cdD, clsIn K D = some cdD
  sub : mroIn K C (.ref D) = some true
  opq : nsIn K cStatics "thirdparty.any" = some none
  ini : ks_superIn K C D "__init__" = some (some (.builtin "ValueError.__init__"))
  val : subIn K (.ref C) (.type "ValueError") = some true

theorem excInit_exo {cdC : Addr} {K : Frag} (T : OexC K cdC) {h : Heap} (X : K.In h) : ∃ nm q N bs bm sn sub ab col dd k0 k1 k2 k3 k5, h.get? cdC = some (excClassObj nm q cdC N bs bm true sn sub ab col dd k0 k1 k2 k3 k5 "ValueError.__new__") ∧ PySem.HandSPX.refsVE bm = true := by
  obtain ⟨nm, q, N, bs, bm, sn, sub, ab, col, dd, k0, k1, k2, k3, k5, hC, hbm⟩ := T.cls
  exact ⟨nm, q, N, bs, bm, sn, sub, ab, col, dd, k0, k1, k2, k3, k5, X _ _ hC, hbm⟩

section
variable {X : Cx} {pins : List (Addr × Obj)} {σ : L2.St} {H : Hp} {s : Shared} {x C : Addr} {A : Around} {E : Value → Shared → Prop}
/-- the method-wrapper called -/
theorem mw_call {u : Addr} {us : List Value} {Q : Value → Shared → Prop} (T : OexC X.K C) (I : Inv X pins σ H s) (e : H x = some (exo x C none)) (hu : s.heap.get? u = some (kxs_mw "ValueError.__init__" x)) (hl : us.length ≤ sizeLine)
    (h : ∀ s', Inv X pins σ H s' → Q .none s') : wpAny (model X.prog X.w) A (call (.ref u) us) Q E s := by
  obtain ⟨nm, q, N, bs, bm, sn, sub, ab, col, dd, k0, k1, k2, k3, k5, hC, hbm⟩ := excInit_exo T I.kIn
  obtain ⟨t1, ho⟩ := exo_at I.hok e
  obtain ⟨hp, g, d, t, os⟩ := s
  refine wpAny_call (codeAny_of_tree ?_)
  show wpAny _ A.in1 (callAny (.ref u) ⟨us, []⟩) _ _ _
  simp only [callAny]
  refine wpAny_bind (wpAny_load hu ?_)
  simp only [kxs_mw, show (Value.type "method-wrapper" == Value.type "method" || Value.type "method-wrapper" == Value.type "builtin_function_or_method" || Value.type "method-wrapper" == Value.type "method-wrapper") = true by decide, if_true]
  refine KFB.if_so (by decide) ?_
  refine wpAny_bind (check_bound_init F.excBase_ValueError.toExcCallFacts hC ho rfl ?_)
  refine wpAny_bind (wpAny_pure (wpAny_pure ?_))
  refine ⟨plainId_quiet F.excBase_ValueError.init.plain _, codeAny_builtin F.excBase_ValueError.initEntry ?_⟩
  refine exc_init_tree (cls := .ref C) (t0 := t1) (dv := none) (c2 := .none) (c3 := .none) (b4 := .bool false) ho hl fun h' k hx _ => ?_
  have J := I.write (t' := t) (x := x) (e := x) (o := exo x C none) (by rw [e]; exact True.intro) (.inl rfl) k ⟨_, hx⟩ (exo_ok hx)
  have eu : upd H x (exo x C none) = H := by
    funext b
    by_cases hb : b = x
    · rw [hb, upd_same, e]
    · rw [upd_ne hb]
  rw [eu] at J
  exact h _ J
end
theorem mw_with {M : Model} {A : Around} {E : Value → Shared → Prop} {s : Shared} {u x : Addr} {i : String} {pos : Pos} {env : Env} {e : Expr} {rest : List Expr} {Q : Value → Shared → Prop}
    (he : starEach (e :: rest) env = (false, eval e env) :: starEach rest env) (hplain : (backTo pos (starEach rest env)).any (·.1) = false)
    (h : wpAny M A (spliced (backTo pos (starEach (e :: rest) env))) (fun vs s₁ => KxsAt i u x s₁.heap ∧ wpAny M A (call (.ref u) vs) Q E s₁) E s) :
    wpAny M A (callWith pos (.ref u) [] (backTo pos (starEach (e :: rest) env)) []) Q E s := by
  rw [he] at h ⊢
  refine kxs_callWith (i := i) (x := x) (by show (false || (backTo pos (starEach rest env)).any (·.1)) = false; rw [hplain]; rfl) ?_
  exact evalArgs_plain h
/-- the def's own words -/
structure SupFn where
  qual : Str
  params : Arguments
  rest : List Stmt
  scope : Scope
  cda : Addr
  cc : Addr
  arg : Expr
  p0 : Pos
  p1 : Pos
  p2 : Pos
  p3 : Pos
  p4 : Pos
abbrev SupFn.body (F : SupFn) : List Stmt := .Expr (.Call (.Attribute (.Call (.Name "super" F.p0) [] [] F.p1) "__init__" F.p2) [F.arg] [] F.p3) F.p4 :: F.rest
abbrev SupFn.nf (F : SupFn) : NF := ⟨"__init__", F.qual, F.params, F.body, F.scope, [("__class__", F.cc)], F.cda⟩
def SupFn.Ev (F : SupFn) : Prop := ∀ env : Env, (∃ pl : Sem Bool, eval (.Call (.Attribute (.Call (.Name "super" F.p0) [] [] F.p1) "__init__" F.p2) [F.arg] [] F.p3) env = (do
      let ov ← attributeBase (.Call (.Name "super" F.p0) [] [] F.p1) "__init__" env (eval (.Call (.Name "super" F.p0) [] [] F.p1) env)
      standAt F.p2.atName
      let (f, first) ← holding [ov] (getMethod ov "__init__" pl)
      callWith F.p3 f first (backTo F.p3 (starEach [F.arg] env)) [])) ∧ starEach [F.arg] env = (false, eval F.arg env) :: starEach [] env ∧ swapsWith (.Call (.Attribute (.Call (.Name "super" F.p0) [] [] F.p1) "__init__" F.p2) [F.arg] [] F.p3) none F.p4.line env = pure false
theorem fn_super {CX : CXT} {P : Program} {w : World} {K : Frag} {mg : Str → Option Value} {base : Heap} {k : Nat} {fI D : Addr} {F : SupFn} {dV kV doc pm ct oc : Value} {an od : Option Addr} {osl : Array (Option Value)} {N ps : List Str} {sp : Sp} {ar : Arg}
    (lk : K.lookup fI = some ⟨oc, od, .func (ksFn "__init__" F.qual F.params F.body F.scope dV kV doc pm an (.ref F.cda) ct F.cc), osl⟩) (hcd : codeIn K (.ref F.cda) F.qual = true) (S : NScope N ps ["__class__"] F.scope)
    (hp : (F.params.posonlyargs ++ F.params.args).head? = some ar) (h0 : ps.head? = some ar.arg) (hks : F.scope.names.lookup ("super" : Str) = some .globalImplicit)
    (hev : F.Ev) (len : ∀ vs H Q E, sp vs H Q E → vs.length = ps.length)
    (hbody : ∀ (A : Around) (outer : List Env) (s : Shared) (H : Hp) (vs : List V) (Q : VK) (E : XK), Room k (A.deeper (envF F.nf fI s.heap.objs.size)) → sp vs H Q E →
      ∃ (x C : Addr) (ta : TA) (t : TS), vs.head? = some (.ref x) ∧ H x = some (exo x C none) ∧ OexC K C ∧ Sup P K mg F.cda F.cc D C ∧
        PA (ncx CX P w K mg base N F.nf fI A outer s H E) [F.arg] ta ∧ PSs (ncx CX P w K mg base N F.nf fI A outer s H E) F.rest t ∧
        ta (startF N vs [none]) H fun ws H1 => ws.length ≤ 1000 ∧ H1 x = some (exo x C none) ∧ t { nx := fun _ H' => Q .non H', rt := Q } (startF N vs [none]) H1) :
    FnOk P w K mg base CX (k + 1) fI (ksFn "__init__" F.qual F.params F.body F.scope dV kV doc pm an (.ref F.cda) ct F.cc) ps sp := by
  refine ⟨len, fun A outer s H args us vs Q E hr e0 hb r hsp => ?_⟩
  have hl := len _ _ _ _ hsp
  have KX : K.In s.heap := e0.mod.kin.keeps fun b o e => (e0.bs b o e).1
  have lim : s.heap.NoLimit := e0.mod.nolimit.keeps fun b o e => (e0.bs b o e).1
  obtain ⟨x, C, ta, t, hx0, hx, T, U, pa, pb, hq⟩ := hbody A outer s H vs Q E (hr.deeper _) hsp
  obtain ⟨ccl, cdd, cvs, ccs, file, tf, hcode, hvs, hfile⟩ := U.code
  obtain ⟨cl, cld, csl, hcell⟩ := U.cell
  obtain ⟨cdD, hD⟩ := U.cls
  refine ks_codeAny_call_defAt (fd := ksFn "__init__" F.qual F.params F.body F.scope dV kV doc pm an (.ref F.cda) ct F.cc) (body := F.body) (binds := ps.zip us) hr.depth (KX _ _ lk) rfl lim (codeRec_of KX hcd) rfl hb S.nocell (fun ⟨n, _⟩ hy => S.par n (List.of_mem_zip hy).1) (fun h₁ hns kp => ?_) S.co S.gen S.kind
  have CA : CellsAt F.nf.cl ["__class__"] [none] s.heap H := by
    have hc0 : base.get? F.cc = _ := e0.mod.kin _ _ hcell
    obtain ⟨g1, g2⟩ := e0.bs _ _ hc0
    have key : ∀ y c, F.nf.cl.lookup y = some c → y = "__class__" ∧ c = F.cc := fun y c e => by
      by_cases hy : y = "__class__"
      · subst hy
        have e' : some F.cc = some c := by simpa [List.lookup] using e
        exact ⟨rfl, (Option.some.inj e').symm⟩
      · have hne : (y == ("__class__" : Str)) = false := by simpa using hy
        have e' : (none : Option Addr) = some c := by simpa [List.lookup, hne] using e
        cases e'
    refine ⟨rfl, fun y c e => ?_, fun a b c e1 e2 => (key _ _ e1).1.trans (key _ _ e2).1.symm, fun i y e => ?_⟩
    · obtain ⟨_, rfl⟩ := key y c e
      exact ⟨g2, _, _, g1, rfl⟩
    · obtain rfl : y = "__class__" := by
        cases i with
        | zero => exact (Option.some.inj e).symm
        | succ i => cases e
      refine ⟨F.cc, by simp [List.lookup], fun v e' => ?_⟩
      cases i with
      | zero => cases e'
      | succ i => cases e
  have I : Inv (ncx CX P w K mg base N F.nf fI A outer s H E) [] (startF N vs [none]) H { s with heap := h₁, toks := s.toks + (ps.zip us).length } := inv_startN (F := F.nf) S hr.hd e0 hl r CA hns kp
  generalize hs1 : ({ s with heap := h₁, toks := s.toks + (ps.zip us).length } : Shared) = s1 at I ⊢
  have X1 : K.In s1.heap := I.kIn
  obtain ⟨t1, ho⟩ := exo_at I.hok hx
  obtain ⟨oD, hD1, hD2⟩ : ∃ oD, s1.heap.get? D = some oD ∧ oD.data = .cls cdD := by
    unfold clsIn at hD
    split at hD
    · rename_i c d cd' sl ho
      cases hD
      exact ⟨_, X1 _ _ ho, rfl⟩
    · cases hD
  have J : InstAt s1.heap x { cls := .ref C, dict := none, data := .fields #[.ref t1, .none, .none, .none, .bool false, .none] } C none := ⟨ho, rfl, rfl, trivial⟩
  have hself : ∃ u0 ur, us = u0 :: ur ∧ u0 = .ref x := by
    cases vs with
    | nil => cases hx0
    | cons v vr =>
      cases r with
      | @cons _ u0 _ ur ra rr =>
        obtain rfl : v = V.ref x := Option.some.inj hx0
        exact ⟨_, _, rfl, ra⟩
  obtain ⟨u0, ur, eu, eu0⟩ := hself
  subst eu0
  have hN : ∃ pr, ps = ar.arg :: pr := by
    cases ps with
    | nil => cases h0
    | cons a pr =>
      obtain rfl : a = ar.arg := Option.some.inj h0
      exact ⟨pr, rfl⟩
  obtain ⟨pr, eps⟩ := hN
  have ndP : ps.Nodup := by
    have q := S.nd.sublist (List.take_sublist (ps.length + (["__class__"] : List Str).length) N)
    rw [S.pre] at q
    exact (List.nodup_append.mp q).1
  have hns1 : s1.heap.Ns s.heap.objs.size (fun y => (ps.zip us).reverse.lookup y) := by rw [← hs1]; exact hns
  have hav : (ps.zip us).reverse.lookup ar.arg = some (.ref x) := zip_look (i := 0) ndP (by rw [eps]; rfl) (by rw [eu]; rfl)
  have ea : (ncx CX P w K mg base N F.nf fI A outer s H E).xe = fun e s' => wpAny (model P w) (A.deeper (envF F.nf fI s.heap.objs.size)) (leaving (envF F.nf fI s.heap.objs.size) e) (fun _ s'' => CX outer H s E e s'') (fun e' s'' => CX outer H s E e' s'') s' := rfl
  show _root_.PySem.wpAt (model P w) (A.deeper (envF F.nf fI s.heap.objs.size)) (.func F.body (envF F.nf fI s.heap.objs.size)) (execs F.body (envF F.nf fI s.heap.objs.size)) _ (ncx CX P w K mg base N F.nf fI A outer s H E).xe s1
  obtain ⟨⟨pl, hev1⟩, hev2, hev3⟩ := hev (envF F.nf fI s.heap.objs.size)
  refine ks_wpAt_execs_cons (ks_wpAt_Expr_any (ks_wpAt_MethodCall (pl := pl) ?_ hev1) (by show interactive (envF F.nf fI s.heap.objs.size) = false; simp [interactive, S.kind]) hev3)
  obtain ⟨mb, hb1, hb2⟩ := e0.mod.blt
  refine ks_wpAt_super_base (env := envF F.nf fI s.heap.objs.size) (of := _) (fd := _) (ar := ar) (oc := _) hks (S.frk _ (by simp)) rfl rfl (X1 _ _ lk) rfl hp rfl (X1 _ _ hcode) rfl hvs hfile U.top ?_
  refine ks_loadName_global S.kind hks (loadGlobal_builtin (env := envF F.nf fI s.heap.objs.size) (e0.mod.glob.keeps I.bk) U.sup (hb1.keeps I.bk) ((hb2 _ (by decide)).trans (by decide +kernel)) ⟨rfl, ?_⟩)
  refine wpAny_loadName_free S.kind (S.frk _ (by simp)) rfl ⟨_, X1 _ _ hcell, rfl⟩ ?_
  refine wpAny_loadName_local S.kind (S.par _ (by rw [eps]; simp)) hns1 hav ?_
  refine ks_wpAny_isType_cls hD1 hD2 ⟨rfl, ?_⟩
  clear hns kp
  obtain ⟨hp1, g1, d1, tk1, os1⟩ := s1
  refine ks_wpAny_call_super hD1 hD2 J.at_ J.cls (fun c e => by cases e) (looks_mroIn X1 U.sub) (fun h2 es2 k2 => ?_)
  have I2 := I.kept (t' := tk1) k2
  have X2 : K.In h2 := I2.kIn
  have J2 : InstAt h2 x { cls := .ref C, dict := none, data := .fields #[.ref t1, .none, .none, .none, .bool false, .none] } C none := ⟨k2 _ _ ho, rfl, rfl, trivial⟩
  have hI : Looks (model P w) h2 (isInstance (.ref x) (.type "ValueError")) true := J2.type.andThen (looks_subIn X2 U.val)
  have hini := U.ini
  cases hc : clsIn K C with
  | none => unfold ks_superIn at hini; rw [hc] at hini; cases hini
  | some cd =>
    unfold ks_superIn at hini
    rw [hc] at hini
    refine kxs_getMethod kxs_ValueError es2 (looks_opaque X2 U.opq) (l₀ := cd.mro) (fun A Q E s k q => wpAny_bind ((looks_clsIn X2 hc) A _ E s k (wpAny_pure q))) rfl X2 hini hI (ks_ne X2 J2 hc) rfl ?_
    have k3 : ∀ b o, h2.get? b = some o → (h2.push (kxs_mw "ValueError.__init__" x)).get? b = some o := fun b o e => Heap.get?_push_of_some _ e
    have I3 := I2.kept (h' := h2.push (kxs_mw "ValueError.__init__" x)) (t' := tk1 + 1) k3
    have hu : (h2.push (kxs_mw "ValueError.__init__" x)).get? h2.objs.size = some (kxs_mw "ValueError.__init__" x) := Heap.get?_push_at rfl rfl
    have pin : Inv (ncx CX P w K mg base N F.nf fI A outer s H E) [(h2.objs.size, kxs_mw "ValueError.__init__" x)] (startF N vs [none]) H ⟨h2.push (kxs_mw "ValueError.__init__" x), g1, d1, tk1 + 1, os1⟩ := by
      refine Inv.pins_of I3 fun p hp => ?_
      obtain rfl : p = (h2.objs.size, kxs_mw "ValueError.__init__" x) := by simpa using hp
      refine ⟨hu, I2.hok.fresh (Nat.le_refl _), ?_, I2.nofs (Nat.le_refl _), fun v e => by cases e⟩
      exact Nat.ne_of_gt I2.lt
    refine mw_with (i := "ValueError.__init__") (x := x) hev2 rfl ?_
    refine wpAny_mono (pa.run F.p3 _ _ _ _ _ pin hq) (fun ws s2 hh => ?_) fun e s' hs => hs
    obtain ⟨vs2, H2, I4, r4, hlen, hx4, hq4⟩ := hh
    have hu4 : s2.heap.get? h2.objs.size = some (kxs_mw "ValueError.__init__" x) := (I4.pin (h2.objs.size, kxs_mw "ValueError.__init__" x) (by simp)).1
    refine ⟨hu4, ?_⟩
    have hlw : ws.length ≤ sizeLine := by
      rw [← r4.length, sizeLine_eq]
      omega
    refine mw_call (X := ncx CX P w K mg base N F.nf fI A outer s H E) T I4 hx4 hu4 hlw fun s5 I5 => ?_
    have I6 : Inv (ncx CX P w K mg base N F.nf fI A outer s H E) [] (startF N vs [none]) H2 s5 := I5.pins_of fun p hp => absurd hp (by simp)
    refine wpAt_of_wpAny (wpAny_mono (pb.run [] s5 _ H2 _ I6 hq4) (fun fl s' hs => ?_) fun e s' hs => hs)
    have fin : ∀ {σ' : L2.St} {H' : Hp} {v : V} {u : Value}, Inv (ncx CX P w K mg base N F.nf fI A outer s H E) [] σ' H' s' → L2.RelV v u → Q v H' → CE outer P w H s Q u s' :=
      fun {σ' H' v u} J rv q => ⟨v, H', J.os, J.bare, J.base, J.hok, rv, q⟩
    cases fl with
    | ret u =>
      obtain ⟨v, σ', H', J, rv, q⟩ := hs
      exact fin J rv q
    | next =>
      obtain ⟨σ', H', J, q⟩ := hs
      exact fin (v := V.non) (u := Value.none) J rfl q
    | brk =>
      obtain ⟨_, _, _, q⟩ := hs
      exact False.elim q
    | cont =>
      obtain ⟨_, _, _, q⟩ := hs
      exact False.elim q
end XS
namespace XS
open PySem L2 NdefX
/-- the words of an __init__ that begins with super().__init__(e) -/
def supOf (st : Stmt) (qual : Str) (cda cc : Addr) : SupFn := match defBody st with
  | .Expr (.Call (.Attribute (.Call (.Name _ p0) _ _ p1) _ p2) (a :: _) _ p3) p4 :: rest => ⟨qual, defArgs st, rest, defScope st, cda, cc, a, p0, p1, p2, p3, p4⟩
  | _ => ⟨qual, defArgs st, [], defScope st, cda, cc, .Name "x" ⟨0, 0, 0, 0⟩, ⟨0, 0, 0, 0⟩, ⟨0, 0, 0, 0⟩, ⟨0, 0, 0, 0⟩, ⟨0, 0, 0, 0⟩, ⟨0, 0, 0, 0⟩⟩
/-- an __init__(self, n1, n2) of an own exception: f'..' of both to super's, then both are stored -/
def spTwo (C : Addr) (n1 n2 : Str) : Sp := fun vs H Q _ => ∃ a v1 v2, vs = [.ref a, v1, v2] ∧ H a = some (exo a C none) ∧ (∃ k : Str, v1 = .str k ∧ k.length ≤ 100000) ∧ (∃ k : Str, v2 = .str k ∧ k.length ≤ 100000) ∧
  ∀ d, H d = none → d ≠ a → Q .non (upd (upd (upd H d (exd d [(n1, v1)])) a (exo a C (some d))) d (exd d [(n2, v2), (n1, v1)]))
/-- what the written part says of the class at C and of its __init__ at fI -/
structure Exn (prog : Program) (K : PySem.W.Frag) (mg : Str → Option Value) (C fI : Addr) (n1 n2 : Str) : Prop where
  oex : OexC K C
  n1 : PySem.W.findIn K (.ref C) n1 = some none
  n2 : PySem.W.findIn K (.ref C) n2 = some none
  iC : PySem.W.findIn K (.ref C) "__init__" = some (some (.ref fI))
  tI : PySem.W.typeIn K (.ref fI) = some (.type "function")
  xf : XfC K C
  te : PySem.W.exmOne K (.ref C) (.ref C) = some true
/-- the end of C(e, ..) as the caller has it -/
theorem made_two {C : Addr} {n1 n2 : Str} {v1 v2 : V} {H : Hp} {a d : Addr} (hne : d ≠ a) (ha : H a = none) :
    upd (del (upd (upd (upd (upd H a (exo a C none)) d (exd d [(n1, v1)])) a (exo a C (some d))) d (exd d [(n2, v2), (n1, v1)])) a) d (.xd [(n2, v2), (n1, v1)]) = upd H d (.xd [(n2, v2), (n1, v1)]) := by
  funext b
  by_cases hb : b = d
  · rw [hb, upd_same, upd_same]
  · rw [upd_ne hb, upd_ne hb]
    by_cases hc : b = a
    · rw [hc, del_same, ha]
    · rw [del_ne hc, upd_ne hb, upd_ne hc, upd_ne hb, upd_ne hc]
section
variable {X : Cx} {C fI : Addr} {n1 n2 x : Str} {e : Expr} {es : List Expr} {ta : TA} {p pos pos2 : Pos} {fd : FuncData} {k : Nat}
/-- raise C(e1, e2) -/
theorem ps_raise2 {W : WX} (hc : X.calm = true) (T : Exn X.prog X.K X.mg C fI n1 n2) (F : FnOk X.prog X.w X.K X.mg X.base CX0 k fI fd ["self", n1, n2] (spTwo C n1 n2)) (hr : Room (k + 1) X.A) (tk : Takes X W) (hb : Binds X.K fd ["self", n1, n2] []) (hg : Gl X x) (hm : X.mg x = some (.ref C)) (ha : PA X (e :: es) ta)
    (hdb : (x == ("__debug__" : Str)) = false := by decide) (he : starEach (e :: es) X.env = (false, eval e X.env) :: starEach es X.env := by rfl) (hpl : (backTo pos (starEach es X.env)).any (·.1) = false := by rfl) :
    PS X (.Raise (some (.Call (.Name x p) (e :: es) [] pos)) none pos2) (fun _ σ H => tMkO C (spTwo C n1 n2) [] ta σ H fun cls d H' => W cls d σ H') := ps_raise (pos := pos2) hc tk (pmk_oex (e := e) (es := es) (p := p) (pos := pos) T.oex T.iC T.tI F hr hb .nil pass0 hg hm ha hdb he hpl)
/-- .. its reading, behind the arguments' -/
theorem made2 {k1 k2 : Str} {H1 : Hp} {Q : XK} (z1 : k1.length ≤ 100000) (z2 : k2.length ≤ 100000) (w : ∀ d, H1 d = none → Q (.ref C) (some d) (upd H1 d (.xd [(n2, .str k2), (n1, .str k1)]))) :
    ([.str k1, .str k2] : List V).length ≤ 1000 ∧ ∀ a, H1 a = none → spTwo C n1 n2 (.ref a :: ([.str k1, .str k2] ++ [])) (upd H1 a (exo a C none))
      (fun v H2 => v = .non ∧ ∃ (d : Addr) (fs : List (Str × V)), H2 a = some (exo a C (some d)) ∧ H2 d = some (exd d fs) ∧ H1 d = none ∧ Q (.ref C) (some d) (upd (del H2 a) d (.xd fs))) (fun _ _ _ => False) := by
  refine ⟨by show 2 ≤ 1000; omega, fun a ha => ?_⟩
  refine ⟨a, .str k1, .str k2, rfl, upd_same, ⟨_, rfl, z1⟩, ⟨_, rfl, z2⟩, fun d hd hne => ⟨rfl, d, _, ?_, upd_same, ?_, ?_⟩⟩
  · rw [upd_ne (Ne.symm hne)]
    exact upd_same
  · rw [upd_ne hne] at hd
    exact hd
  · rw [upd_ne hne] at hd
    rw [made_two hne ha]
    exact w d hd
end
end XS
namespace PySem.W
open PySem PySem.Spec PySem.Calls PyProof.Rows
section
variable {prog : Program} {w : World} {A : Around} {E : Value → Shared → Prop} {s : Shared} {K : Frag} {x D : Addr} {ox : Obj}
theorem xs_findObj {C : Addr} {od : Option Obj} {name : Str} {a g : Value} (hc : (clsIn K C).isSome = true) (ha : findIn K (.ref C) name = some (some a)) (hg : specialIn K a "__get__" = some (some g)) (ht : takesIn K a = some true) : findObj K C od name = some (.bind g a) := by
  obtain ⟨cd, hc⟩ := Option.isSome_iff_exists.mp hc
  unfold findObj
  rw [hc, Option.bind_some, ha, Option.bind_some]
  simp [hg, ht]
theorem xs_class {Q : Option Value → Shared → Prop} (hga : findIn K (.ref D) "__getattribute__" = some (some (.builtin "BaseException.__getattribute__"))) (hgt : findIn K (.ref D) "__getattr__" = some none) (hsub : subIn K (.ref D) (.type "BaseException") = some true)
    (hdct : hasDictIn K D = true) (ha : findIn K (.ref D) "__class__" = some (some (.builtin "object.__class__")))
    (hn : specialIn K (.builtin "object.__class__") "__get__" = some (some (.builtin "getset_descriptor.__get__"))) (htk : takesIn K (.builtin "object.__class__") = some true) (hm : mroIn K D (.type "object") = some true)
    {odx : Option Obj} (X : K.In s.heap) (I : InstAt s.heap x ox D odx) (h : Q (some (.ref D)) { s with toks := s.toks + 1 }) : wpAny (model prog w) A (getAttr? (.ref x) "__class__") Q E s := by
  have hf : findObj K D odx "__class__" = some (.bind (.builtin "getset_descriptor.__get__") (.builtin "object.__class__")) := xs_findObj (by obtain ⟨cd, hc, _⟩ := any_some hdct; rw [hc]; rfl) ha hn htk
  obtain ⟨hp, g, d, t, os⟩ := s
  have L0 := I.type (M := model prog w)
  have L1 := looks_findIn (M := model prog w) X hga
  have L2 := looks_findIn (M := model prog w) X hgt
  have L3 := looks_find (M := model prog w) X I hf
  have sub : Looks (model prog w) hp (isInstance (.ref x) (.type "BaseException")) true := L0.andThen (looks_subIn X hsub)
  have hx0 : (false && onTheHeap (Value.builtin "BaseException.__getattribute__")) = false := rfl
  have hx2 : (Value.builtin "BaseException.__getattribute__" == Value.builtin "object.__getattribute__") = false := by decide +kernel
  have hx1 : (onTheHeap (Value.ref D) && Value.builtin "BaseException.__getattribute__" == Value.builtin "object.__getattribute__") = false := by rw [hx2]; rfl
  unfold getAttr? getAttrBy? getAttrBy
  refine wpAny_bind (wpAny_mkText (wpAny_bind (wpAny_attempt (wpAny_holding (wpAny_bind (L0.at (wpAny_bind (L1.at ?_))))))))
  show wpAny _ _ (if (onTheHeap (Value.ref D) && Value.builtin "BaseException.__getattribute__" == Value.builtin "object.__getattribute__") = true then _ else _) _ _ _
  rw [hx1, if_neg Bool.false_ne_true]
  unfold getAttrByItsOwn hookBefore
  refine wpAny_bind ?_
  rw [if_pos (show onTheHeap (Value.ref D) = true from rfl)]
  refine L2.at ?_
  refine wpAny_bind (wpAny_attempt (wpAny_holding ?_))
  unfold callGetattribute
  rw [hx0, if_neg Bool.false_ne_true]
  unfold boundAndCalled
  rw [PySem.F.excAttr_ValueError.ga.bind (.ref x)]
  refine wpAny_bind (wpAny_pure ?_)
  show wpAny _ _ (call (.builtin "BaseException.__getattribute__") [.ref x, .str "__class__" t]) _ _ _
  refine wpAny_call (codeAny_call_builtin PySem.F.excAttr_ValueError.ga.plain PySem.F.entry_bexc_ga ?_)
  refine @check_slot (model prog w) _ _ ⟨hp, g, d, t + 1, os⟩ "BaseException.__getattribute__" "BaseException" "__getattribute__" (.ref x) [.str "__class__" t] [] _ (by decide +kernel) (by decide +kernel) sub (PySem.F.args_bexc_ga (.ref x) (.str "__class__" t)) ?_
  unfold Builtin.«object.__getattribute__»
  refine wpAny_bind (wpAny_of_eq (a := ((Value.ref x : Value), [Value.str "__class__" t])) (by first | rfl | (simp only [slotArgs]; rfl)) ?_)
  refine wpAny_bind (wpAny_pure (wpAny_bind (L0.at (wpAny_bind (L3.at ?_)))))
  show wpAny _ _ (holding [Value.builtin "object.__class__"] (call (.builtin "getset_descriptor.__get__") [.builtin "object.__class__", .ref x, .ref D]) >>= ret) _ _ _
  refine wpAny_bind (wpAny_holding (wpAny_call (class_get (s := ⟨hp, g, d, t + 1, os⟩) (ox := ox) (od := odx) X I hm ?_)))
  refine wpAny_pure ?_
  show wpAny _ _ (handedOut (.ref D)) _ _ _
  rw [handedOut_of (v := .ref D) rfl]
  first
    | exact wpAny_pure (wpAny_pure h)
    | exact wpAny_pure h
    | exact wpAny_pure (wpAny_bind (wpAny_pure (wpAny_pure h)))
theorem xs_kitx {odx : Option Obj} (hga : findIn K (.ref D) "__getattribute__" = some (some (.builtin "BaseException.__getattribute__"))) (hgt : findIn K (.ref D) "__getattr__" = some none) (hsub : subIn K (.ref D) (.type "BaseException") = some true) (hdct : hasDictIn K D = true) (ha : findIn K (.ref D) "__class__" = some (some (.builtin "object.__class__")))
    (hn : specialIn K (.builtin "object.__class__") "__get__" = some (some (.builtin "getset_descriptor.__get__"))) (htk : takesIn K (.builtin "object.__class__") = some true) (hm : mroIn K D (.type "object") = some true) :
    KitX K (.ref x) (.ref D) (fun h => InstAt h x ox D odx) where
  ty := fun _ _ _ I => I.type
  it := fun _ _ X _ => by
    obtain ⟨cdD, hcD, _⟩ := any_some hdct
    unfold clsIn at hcD
    split at hcD
    · rename_i c' d' cd' sl' ho
      intro A' Q' E' s' k q
      unfold isType loadHead
      exact wpAny_bind (wpAny_loadPart (k _ _ (X _ _ ho)) (wpAny_pure q))
    · cases hcD
  ne := fun h tp dd its n sl X htp => by
    obtain ⟨cdD, hcD, _⟩ := any_some hdct
    refine Bool.eq_false_iff.mpr fun q => ?_
    have e : D = tp := Value.ref.inj (beq_iff_eq.mp q)
    subst e
    unfold clsIn at hcD
    split at hcD
    · rename_i c' d' cd' sl' ho
      have z := (X _ _ ho).symm.trans htp
      cases z
    · cases hcD
  ca := fun X I k => xs_class hga hgt hsub hdct ha hn htk hm X I k
end
end PySem.W
namespace L2
open PySem PySem.Spec PyProof.Rows
/-- isinstance(e, c), e the exception that the suite holds, with fields of its own -/
def rIsED (K : PySem.W.Frag) (D a : Addr) (cls : Value) (d : Option Addr) : List V → Hp → VK → Prop := fun xs H Q => ∃ (c : V) (cv : Value) (b : Bool) (dd : Addr) (fs : List (Str × V)), cls = .ref D ∧ d = some dd ∧ xs = [.ref a, c] ∧ (∀ u, RelV c u → u = cv) ∧ H dd = some (.xd fs) ∧ PySem.W.kitOne K (.ref D) cv = some b ∧ Q (.bl b) H
theorem call_isED {X : Cx} {a D : Addr} {oe : Obj} {cls : Value} {d : Option Addr} {pn : List (Addr × Obj)} (C : ExcC X.K D) (hz : Zc cls d oe) (hf : ∃ vs, oe.data = .fields vs) : CallR (X.suite a ((a, oe) :: pn)) (.builtin "isinstance") (rIsED X.K D a cls d) := by
  intro pins s σ H xs us Q I r h
  obtain ⟨c, cv, b, dd, fs, rfl, rfl, rfl, hcv, hdd, e, q⟩ := h
  cases r with
  | cons rx rr =>
    cases rr with
    | cons rt rr =>
      cases rr
      cases rx
      have ec := hcv _ rt
      subst ec
      obtain ⟨hget, _⟩ := I.pin (a, oe) (List.mem_append.mpr (.inl List.mem_cons_self))
      obtain ⟨vs, hv⟩ := hf
      have hx : ObjOk X.prog X.w H s.heap dd (.xd fs) := I.hok dd _ hdd
      obtain ⟨mA, hns, hr⟩ := hx
      obtain ⟨od, ho, hl⟩ := lookIn_ns hns
      have J : PySem.W.InstAt s.heap a oe D (some od) := ⟨hget, hz.1, by unfold PySem.W.notCls; rw [hv] <;> rfl, by rw [hz.2]; exact ho⟩
      exact PySem.W.kia_one (PySem.W.xs_kitx C.hg C.hk C.hs C.hd C.ha C.hn C.ht C.hm) I.kIn J e (fun z => nomatch z) fun tk => ⟨.bl b, H, I.kept (t' := tk) fun _ _ z => z, rfl, q⟩
end L2
/-! own text: a dict whose keys are pairs of a mark (is it a bool?) and a key: null, a bool, a number, a text -/
namespace XT
open PySem PySem.Spec PyProof.Rows L2
def fk : V → NestedKey
  | .bl b => .num (if b = true then 1 else 0) | .int i => .num i | .str x => .text x | _ => .none
def isB : V → Bool
  | .bl _ => true | _ => false
def tk (k : V) : NestedKey := .tup [.num (if isB k = true then 1 else 0), fk k]
def keyOk : V → Bool
  | .non | .bl _ | .int _ | .str _ => true | _ => false
theorem tk_inj {a b : V} (ha : keyOk a = true) (hb : keyOk b = true) (h : tk a = tk b) : a = b := by
  unfold tk at h
  injection h with h
  injection h with h1 h2
  injection h2 with h2 _
  injection h1 with h1
  cases a <;> cases b <;> simp_all [fk, isB, keyOk]
  case bl.bl x y => cases x <;> cases y <;> simp_all
theorem tk_depth (k : V) : (tk k).depth ≤ 8 := by
  cases k <;> simp [tk, fk, NestedKey.depth, NestedKey.depthAll]
abbrev Ent := V × Addr × V
abbrev EV : List Ent → List (NestedKey × Addr × Value) → Prop := Paired fun p q => tk p.1 = q.1 ∧ p.2.1 = q.2.1 ∧ RelV p.2.2 q.2.2
def TabO (P : Program) (w : World) (a : Addr) (es : List Ent) : HO := .ext fun h => (a == sysModules) = false ∧ ∃ xs o ds ep, EV es xs ∧ h.get? a = some o ∧ o.ExactDict ∧ o.data = .dict ds ep ∧ ds.toList = xs.map (entryOfKey (nestedKind P w)) ∧ (xs.map (·.1)).Nodup
structure TabAt (P : Program) (w : World) (H : Hp) (a : Addr) (es : List Ent) : Prop where
  at_ : H a = some (TabO P w a es)
  keys : ∀ e ∈ es, keyOk e.1 = true ∧ H e.2.1 = some (.tup [.bl (isB e.1), e.1])
  len : es.length ≤ 1000000
def valT (es : List Ent) (k : V) : Option V := (es.find? fun e => decide (e.1 = k)).map (·.2.2)
def putT (es : List Ent) (k : V) (b : Addr) (v : V) : List Ent := if (valT es k).isSome = true then es.map (fun e => if e.1 = k then (e.1, e.2.1, v) else e) else es ++ [(k, b, v)]
def dropT (es : List Ent) (k : V) : List Ent := es.filter fun e => decide (e.1 ≠ k)
theorem key_is {P : Program} {w : World} {H : Hp} {h : Heap} {b : Addr} {k : V} (ok : HOk P w H h) (hk : keyOk k = true) (e : H b = some (.tup [.bl (isB k), k])) : (nestedKind P w).is h (tk k) b := by
  obtain ⟨_, its, r, o, h1, h2, n, h3⟩ := (show ObjOk P w H h b (.tup [.bl (isB k), k]) from ok b _ e)
  refine ⟨.tup h1 h2 h3 ?_, tk_depth k⟩
  cases r with
  | cons r1 r2 =>
    cases r2 with
    | cons r2 r3 =>
      cases r3
      cases (show _ = Value.bool (isB k) from r1)
      refine .cons (.bool rfl) (.cons ?_ .nil)
      cases k with
      | non => cases (show _ = Value.none from r2); exact .none
      | bl b => cases (show _ = Value.bool b from r2); exact .bool rfl
      | int i => obtain ⟨t, rfl⟩ := r2; exact .int i t
      | str x => obtain ⟨t, rfl⟩ := r2; exact .text x t
      | _ => exact nomatch hk
theorem EV.val {es : List Ent} {xs : List (NestedKey × Addr × Value)} (r : EV es xs) {k : V} (hk : keyOk k = true) (he : ∀ e ∈ es, keyOk e.1 = true) : RelO (valT es k) ((atKey xs (tk k)).map (·.2)) := by
  induction r with
  | nil => exact True.intro
  | @cons p q ps qs h t ih =>
    obtain ⟨h1, _, h2⟩ := h
    have ih := ih fun e m => he e (List.mem_cons_of_mem _ m)
    unfold valT at ih ⊢
    by_cases e : p.1 = k
    · have e' : q.1 = tk k := by rw [← h1, e]
      have b : atKey (q :: qs) (tk k) = some q.2 := by simp [atKey, List.find?_cons, e']
      rw [b, List.find?_cons, show decide (p.1 = k) = true from decide_eq_true e]
      exact h2
    · have e' : ¬ q.1 = tk k := fun z => e (tk_inj (he p (List.mem_cons_self ..)) hk (h1.trans z))
      have b : atKey (q :: qs) (tk k) = atKey qs (tk k) := by simp [atKey, List.find?_cons, e']
      rw [b, List.find?_cons, show decide (p.1 = k) = false from decide_eq_false e]
      exact ih
theorem EV.put {es : List Ent} {xs : List (NestedKey × Addr × Value)} (r : EV es xs) {k : V} {b : Addr} {v : V} {u : Value} (hk : keyOk k = true) (he : ∀ e ∈ es, keyOk e.1 = true) (rv : RelV v u) : EV (putT es k b v) (storedH xs (tk k) b u) := by
  have e : (valT es k).isSome = (atKey xs (tk k)).isSome := by
    rw [(r.val hk he).isSome_eq, Option.isSome_map]
  unfold putT storedH
  rw [e]
  by_cases q : (atKey xs (tk k)).isSome = true
  · rw [if_pos q, if_pos q]
    clear e q
    induction r with
    | nil => exact .nil
    | @cons p q ps qs h t ih =>
      rw [List.map_cons, List.map_cons]
      refine .cons ?_ (ih fun e m => he e (List.mem_cons_of_mem _ m))
      obtain ⟨h1, h2, h3⟩ := h
      unfold putAt
      by_cases e : p.1 = k
      · rw [if_pos e, if_pos (by rw [← h1, e])]
        exact ⟨h1, h2, rv⟩
      · rw [if_neg e, if_neg (fun z => e (tk_inj (he p (List.mem_cons_self ..)) hk (h1.trans z)))]
        exact ⟨h1, h2, h3⟩
  · rw [if_neg q, if_neg q]
    exact Paired.snoc r ⟨rfl, rfl, rv⟩
theorem EV.drop {es : List Ent} {xs : List (NestedKey × Addr × Value)} (r : EV es xs) {k : V} (hk : keyOk k = true) (he : ∀ e ∈ es, keyOk e.1 = true) : EV (dropT es k) (withoutH xs (tk k)) := by
  unfold dropT withoutH
  induction r with
  | nil => exact .nil
  | @cons p q ps qs h t ih =>
    have ih := ih fun e m => he e (List.mem_cons_of_mem _ m)
    obtain ⟨h1, h2, h3⟩ := h
    rw [List.filter_cons, List.filter_cons]
    by_cases e : p.1 = k
    · have a : ¬ decide (p.1 ≠ k) = true := by simp [e]
      have b : ¬ decide (q.1 ≠ tk k) = true := by simp [← h1, e]
      rw [if_neg a, if_neg b]
      exact ih
    · have e' : ¬ q.1 = tk k := fun z => e (tk_inj (he p (List.mem_cons_self ..)) hk (h1.trans z))
      have a : decide (p.1 ≠ k) = true := by simp [e]
      have b : decide (q.1 ≠ tk k) = true := by simp [e']
      rw [if_pos a, if_pos b]
      exact .cons ⟨h1, h2, h3⟩ ih
theorem TabAt.have {P : Program} {w : World} {H : Hp} {h : Heap} {a : Addr} {es : List Ent} (T : TabAt P w H a es) (ok : HOk P w H h) : (a == sysModules) = false ∧ ∃ xs, EV es xs ∧ h.DictOfH (nestedKind P w) a xs := by
  obtain ⟨⟨hs, xs, o, ds, ep, r, h1, h2, h3, h4, h5⟩, _, _⟩ := (show ObjOk P w H h a (TabO P w a es) from ok a _ T.at_)
  refine ⟨hs, xs, r, o, ds, ep, h1, h2, h3, h4, ?_, h5⟩
  have all : ∀ {l : List Ent} {m : List (NestedKey × Addr × Value)}, EV l m → (∀ e ∈ l, keyOk e.1 = true ∧ H e.2.1 = some (.tup [.bl (isB e.1), e.1])) → ∀ x ∈ m, (nestedKind P w).is h x.1 x.2.1 := by
    intro l m q
    induction q with
    | nil => intro _ x hx; exact nomatch hx
    | @cons p q ps qs hq t ih =>
      intro hl x hx
      rcases List.mem_cons.mp hx with e | hx
      · subst e
        have := hl p (List.mem_cons_self ..)
        rw [← hq.1, ← hq.2.1]
        exact key_is ok this.1 this.2
      · exact ih (fun e m => hl e (List.mem_cons_of_mem _ m)) x hx
  exact all r T.keys
theorem tab_new {P : Program} {w : World} {H : Hp} {h : Heap} {a : Addr} {es : List Ent} {xs : List (NestedKey × Addr × Value)} (hs : (a == sysModules) = false) (r : EV es xs) (d : h.DictOfH (nestedKind P w) a xs) : ObjOk P w H h a (TabO P w a es) := by
  obtain ⟨o, ds, ep, h1, h2, h3, h4, _, h5⟩ := d
  exact ⟨⟨hs, xs, o, ds, ep, r, h1, h2, h3, h4, h5⟩, ⟨o, h1⟩, fun g1 g2 ⟨_, xs', o', ds', ep', r', k1, k2⟩ st => ⟨hs, xs', o', ds', ep', r', st _ k1, k2⟩⟩
theorem room_in1 {A : Around} (hu : A.units + 64 < cLine) {P : Program} {w : World} : (nestedKind P w).room A.in1 := by
  show A.in1.units + 8 < cLine
  have : A.in1.units = A.units + 1 := by first | rfl | simp [Around.in1]
  omega
/-! ### the rules -/
def KeyAt (H : Hp) (b : Addr) (k : V) : Prop := keyOk k = true ∧ H b = some (.tup [.bl (isB k), k])
theorem TabAt.put {P : Program} {w : World} {H : Hp} {a b : Addr} {es : List Ent} {k v : V} (T : TabAt P w H a es) (hk : KeyAt H b k) (hl : es.length < 1000000) : TabAt P w (upd H a (TabO P w a (putT es k b v))) a (putT es k b v) := by
  have ne : ∀ {c : Addr} {ys : List V}, H c = some (.tup ys) → c ≠ a := fun {c ys} e z => by
    rw [z, T.at_] at e
    cases e
  refine ⟨upd_same, fun e he => ?_, ?_⟩
  · have all : keyOk e.1 = true ∧ H e.2.1 = some (.tup [.bl (isB e.1), e.1]) := by
      unfold putT at he
      split at he
      · obtain ⟨e0, h0, e1⟩ := List.mem_map.mp he
        have := T.keys e0 h0
        split at e1
        · subst e1
          exact this
        · subst e1
          exact this
      · rcases List.mem_append.mp he with he | he
        · exact T.keys e he
        · rw [List.mem_singleton] at he
          subst he
          exact hk
    exact ⟨all.1, by rw [upd_ne (ne all.2)]; exact all.2⟩
  · unfold putT
    split
    · rw [List.length_map]
      exact T.len
    · rw [List.length_append, List.length_singleton]
      omega
theorem TabAt.drop {P : Program} {w : World} {H : Hp} {a : Addr} {es : List Ent} {k : V} (T : TabAt P w H a es) : TabAt P w (upd H a (TabO P w a (dropT es k))) a (dropT es k) := by
  have ne : ∀ {c : Addr} {ys : List V}, H c = some (.tup ys) → c ≠ a := fun {c ys} e z => by
    rw [z, T.at_] at e
    cases e
  refine ⟨upd_same, fun e he => ?_, Nat.le_trans (List.length_filter_le _ _) T.len⟩
  have := T.keys e (List.mem_filter.mp he).1
  exact ⟨this.1, by rw [upd_ne (ne this.2)]; exact this.2⟩
theorem TabAt.mono {P : Program} {w : World} {H H' : Hp} {a : Addr} {es : List Ent} (T : TabAt P w H a es) (h1 : H' a = H a) (h2 : ∀ c ys, H c = some (.tup ys) → H' c = some (.tup ys)) : TabAt P w H' a es :=
  ⟨h1.trans T.at_, fun e he => ⟨(T.keys e he).1, h2 _ _ (T.keys e he).2⟩, T.len⟩
theorem sz_ok {es : List Ent} {xs : List (NestedKey × Addr × Value)} (r : EV es xs) (h : es.length ≤ 1000000) : xs.length ≤ sizeLine := by
  rw [← Paired.length r, sizeLine_eq]
  omega
section
variable {X : Cx} {o i value : Expr} {pos pos' tpos : Pos} {td ty tv : TE}
def tTNew (P : Program) (w : World) : TE := fun _ H Q => ∀ p, H p = none → Q (.ref p) (upd H p (TabO P w p []))
def tTGet (P : Program) (w : World) (td ty : TE) : TE := fun σ H Q => td σ H fun x H1 => ty σ H1 fun y H2 => ∃ a b k es v, x = .ref a ∧ y = .ref b ∧ TabAt P w H2 a es ∧ KeyAt H2 b k ∧ valT es k = some v ∧ Q v H2
def tTIn (P : Program) (w : World) (ty td : TE) : TE := fun σ H Q => ty σ H fun y H1 => td σ H1 fun x H2 => ∃ a b k es, x = .ref a ∧ y = .ref b ∧ TabAt P w H2 a es ∧ KeyAt H2 b k ∧ Q (.bl (valT es k).isSome) H2
def sTPut (P : Program) (w : World) (td ty tv : TE) : TS := fun D σ H => tv σ H fun v H1 => td σ H1 fun x H2 => ty σ H2 fun y H3 => ∃ a b k es, x = .ref a ∧ y = .ref b ∧ TabAt P w H3 a es ∧ KeyAt H3 b k ∧ D.nx σ (upd H3 a (TabO P w a (putT es k b v)))
def sTDel (P : Program) (w : World) (td ty : TE) : TS := fun D σ H => td σ H fun x H1 => ty σ H1 fun y H2 => ∃ a b k es, x = .ref a ∧ y = .ref b ∧ TabAt P w H2 a es ∧ KeyAt H2 b k ∧ (valT es k).isSome = true ∧ D.nx σ (upd H2 a (TabO P w a (dropT es k)))
theorem pe_tnew : PE X (.Dict [] [] pos) (tTNew X.prog X.w) := ⟨fun pins s σ H Q I h =>
  wpAny_Dict_empty ⟨.ref s.heap.objs.size, _, I.laid (a := s.heap.objs.size) (o := TabO X.prog X.w s.heap.objs.size []) (t' := s.toks) (fun _ _ q => Heap.get?_push_of_some _ q) (Nat.le_refl _)
    (tab_new (beq_eq_false_iff_ne.mpr (Ne.symm (Nat.ne_of_lt I.big))) .nil (Heap.DictOfH.new _)), rfl, h _ (I.hok.fresh (Nat.le_refl _))⟩⟩
theorem pe_tget (hu : X.A.units + 64 < cLine) (ho : PE X o td) (hi : PE X i ty) (hs : NoSl i) : PE X (.Subscript o i pos) (tTGet X.prog X.w td ty) := by
  refine ⟨fun pins s σ H Q I h => ?_⟩
  refine subD_of PySem.F.slot_dict_getitem.lookup hs (thn (ho.run pins s σ H _ I h) fun u s1 ⟨x, H1, I1, rx, q1⟩ => thn (hi.run pins s1 σ H1 _ I1 q1) fun iv s2 ⟨y, H2, I2, ry, a, b, k, es, v, ex, ey, T, hk, hv, q2⟩ => ?_)
  subst ex ey
  obtain rfl : u = Value.ref a := rx
  obtain rfl : iv = Value.ref b := ry
  obtain ⟨hd, xs, r, dd⟩ := T.have I2.hok
  obtain ⟨w', hw, rw'⟩ := RelO.some_of (v := v) (o := (atKey xs (tk k)).map (·.2)) (by rw [← hv]; exact r.val hk.1 fun e m => (T.keys e m).1)
  obtain ⟨p, hp, hp2⟩ := Option.map_eq_some_iff.mp hw
  refine ⟨dd.typeIs, wpAny_getItem_heap (room_in1 hu) (key_is I2.hok hk.1 hk.2) dd hp ?_⟩
  rw [hp2]
  exact ⟨v, H2, I2.tok _, rw', q2⟩
theorem pc_tin (hu : X.A.units + 64 < cLine) (hi : PE X i ty) (ho : PE X o td) : PC X .In i o (tTIn X.prog X.w ty td) := by
  refine ⟨fun pins s σ H Q I h => ?_⟩
  refine thn (hi.run pins s σ H _ I h) fun iv s1 ⟨y, H1, I1, ry, q1⟩ => thn (ho.run pins s1 σ H1 _ I1 q1) fun u s2 ⟨x, H2, I2, rx, a, b, k, es, ex, ey, T, hk, q2⟩ => ?_
  subst ex ey
  obtain rfl : u = Value.ref a := rx
  obtain rfl : iv = Value.ref b := ry
  obtain ⟨hd, xs, r, dd⟩ := T.have I2.hok
  refine wpAny_in_heap (room_in1 hu) (key_is I2.hok hk.1 hk.2) hd dd ?_
  have q := (r.val hk.1 fun e m => (T.keys e m).1).isSome_eq
  rw [Option.isSome_map] at q
  rw [← q]
  exact ⟨.bl (valT es k).isSome, H2, I2.tok _, rfl, q2⟩
theorem ps_tput (hu : X.A.units + 64 < cLine) (ho : PE X o td) (hi : PE X i ty) (hv : PE X value tv) (hs : swapsWith value (some (.Subscript o i pos')) pos.line X.env = pure false) :
    PS X (.Assign [.Subscript o i pos'] value pos) (sTPut X.prog X.w td ty tv) := by
  refine ⟨fun pins s σ H D I h => ?_⟩
  refine wpAny_Assign_Subscript (thn (hv.run pins s σ H _ I h) fun r s1 ⟨v, H1, I1, rv, q1⟩ => thn (ho.run pins s1 σ H1 _ I1 q1) fun u s2 ⟨x, H2, I2, rx, q2⟩ => thn (hi.run pins s2 σ H2 _ I2 q2) fun iv s3 ⟨y, H3, I3, ry, a, b, k, es, ex, ey, T, hk, q3⟩ => ?_) hs
  subst ex ey
  obtain rfl : u = Value.ref a := rx
  obtain rfl : iv = Value.ref b := ry
  obtain ⟨hd, xs, rr, dd⟩ := T.have I3.hok
  refine wpAny_setItem_heap (hsz := sz_ok rr T.len) (room_in1 hu) (key_is I3.hok hk.1 hk.2) dd fun h' dd' hsb => ?_
  have he : ∃ q, h'.get? a = some q := let ⟨q, _, _, hq, _⟩ := dd'; ⟨q, hq⟩
  exact ⟨σ, _, d_write I3 (by rw [T.at_]; exact True.intro) hsb he (tab_new hd (rr.put hk.1 (fun e m => (T.keys e m).1) rv) dd'), q3⟩
theorem ps_tdel (hu : X.A.units + 64 < cLine) (ho : PE X o td) (hi : PE X i ty) : PS X (.Delete [.Subscript o i tpos] pos) (sTDel X.prog X.w td ty) := by
  refine ⟨fun pins s σ H D I h => ?_⟩
  refine wpAny_Delete (wpAny_deleteEach_cons (wpAny_delete_Subscript (thn (ho.run pins s σ H _ I h) fun u s1 ⟨x, H1, I1, rx, q1⟩ => thn (hi.run pins s1 σ H1 _ I1 q1) fun iv s2 ⟨y, H2, I2, ry, a, b, k, es, ex, ey, T, hk, hv, q2⟩ => ?_)))
  subst ex ey
  obtain rfl : u = Value.ref a := rx
  obtain rfl : iv = Value.ref b := ry
  obtain ⟨hd, xs, rr, dd⟩ := T.have I2.hok
  have he1 : ∀ e ∈ es, keyOk e.1 = true := fun e m => (T.keys e m).1
  obtain ⟨p, hp⟩ : ∃ p, atKey xs (tk k) = some p := by
    have q := (rr.val hk.1 he1).isSome_eq
    rw [Option.isSome_map, hv] at q
    exact Option.isSome_iff_exists.mp q.symm
  refine wpAny_delItem_heap (hsz := sz_ok rr T.len) (room_in1 hu) (key_is I2.hok hk.1 hk.2) hd dd hp fun h' dd' hsb => wpAny_deleteEach_nil ?_
  have he : ∃ q, h'.get? a = some q := let ⟨q, _, _, hq, _⟩ := dd'; ⟨q, hq⟩
  exact ⟨σ, _, d_write I2 (by rw [T.at_]; exact True.intro) hsb he (tab_new hd (rr.drop hk.1 he1) dd'), q2⟩
/-- len(d) -/
theorem call_len_tab : CallR X (.builtin "len") (fun vs H Q => ∃ a es, vs = [.ref a] ∧ TabAt X.prog X.w H a es ∧ Q (.int (es.length : Nat)) H) := by
  intro pins s σ H vs us Q I rv h
  obtain ⟨a, es, rfl, T, q⟩ := h
  obtain ⟨u, rfl, ru⟩ := rv.one
  obtain rfl : u = Value.ref a := ru
  obtain ⟨hd, xs, r, dd⟩ := T.have I.hok
  have hz := sz_ok r T.len
  refine call_len_dictH hd dd (by rw [sizeLine_eq] at hz; omega) ?_
  rw [← Paired.length r]
  exact ⟨.int _, H, I.tok _, ⟨_, rfl⟩, q⟩
end
end XT
/-! own text: the values of such a dict, as a list -/
namespace XT
open PySem PySem.Spec PyProof.Rows L2
def ViewO (d v : Addr) : HO := .ext fun h => h.IsValuesView v d
theorem EV.vals {es : List Ent} {xs : List (NestedKey × Addr × Value)} (r : EV es xs) : Vals (es.map (·.2.2)) (xs.map (·.2.2)) := by
  induction r with
  | nil => exact .nil
  | cons h t ih => exact .cons h.2.2 ih
section
variable {prog : Program} {w : World} {A : Around} {E : Value → Shared → Prop} {s : Shared}
theorem meets_vals (d : Addr) (hd : (d == sysModules) = false) :
    MeetsIn prog w (Builtin.«dict.values» ⟨[.ref d], []⟩) (fun _ R s => s.TypeIs (.ref d) "dict" ∧
      R (.ok (.ret (.ref s.heap.objs.size))) { s with heap := s.heap.push { cls := .type "dict_values", data := .fields #[.ref d] } }) :=
  .of_wp fun A R s ⟨hm, h⟩ => by
    refine wpAny_bind ?_
    unfold Builtin.Dict.noArgs
    refine wpAny_bind (wpAny_notOrdered_dict hm ?_)
    show wpAny _ _ (pure d) _ _ s
    refine wpAny_pure ?_
    show wpAny _ _ (Builtin.Dict.showsAll d >>= _) _ _ s
    unfold Builtin.Dict.showsAll
    rw [if_neg (by rw [hd]; exact Bool.false_ne_true)]
    refine wpAny_bind (wpAny_pure ?_)
    exact wpAny_bind (wpAny_newObj_type (wpAny_pure ⟨_, rfl, h⟩))
end
section
variable {X : Cx} {o : Expr} {to : TE} {apos cpos : Pos}
def tTVals (P : Program) (w : World) (to : TE) : TE := fun σ H Q => to σ H fun x H1 => ∃ a es, x = .ref a ∧ TabAt P w H1 a es ∧ ∀ v, H1 v = none → Q (.ref v) (upd H1 v (ViewO a v))
theorem pe_tvals (ho : PE X o to) (hbase : attributeBase o "values" X.env (eval o X.env) = eval o X.env := by rfl) (hline : (apos.endLine == cpos.line) = true := by rfl) : PE X (.Call (.Attribute o "values" apos) [] [] cpos) (tTVals X.prog X.w to) := by
  refine ⟨fun pins s σ H Q I h => ?_⟩
  refine wpAny_Call_method0_late hbase hline (thn (ho.run pins s σ H _ I h) fun v s1 ⟨x, H1, I1, r1, a, es, ex, T, q1⟩ => ?_)
  subst ex
  obtain rfl : v = Value.ref a := r1
  obtain ⟨hd, xs, r, dd⟩ := T.have I1.hok
  refine ⟨"dict", "dict.values", PySem.F.plainAttrs_dict, PySem.F.slot_dict_values, PySem.F.type_dict_values, dd.typeIs, fun b e => ?_, Calls.callWith_builtin rfl (PySem.evalArgs_none ?_)⟩
  · cases e
    obtain ⟨ob, _, _, h1, h2, _⟩ := dd
    exact ⟨ob, h1, h2.2.1⟩
  refine call_meetsIn PySem.F.slot_dict_values dd.typeIs PySem.F.entry_dict_values (PySem.F.args_dict_values_1 _) (meets_vals a hd) ⟨dd.typeIs, ?_⟩
  have hv : (s1.heap.push { cls := .type "dict_values", data := .fields #[.ref a] }).IsValuesView s1.heap.objs.size a := ⟨_, Heap.get?_push_size _ rfl, rfl, rfl⟩
  refine ⟨.ref s1.heap.objs.size, _, I1.laid (a := s1.heap.objs.size) (o := ViewO a s1.heap.objs.size) (t' := s1.toks) (fun _ _ q => Heap.get?_push_of_some _ q) (Nat.le_refl _) ?_, rfl, q1 _ (I1.hok.fresh (Nat.le_refl _))⟩
  exact ⟨hv, ⟨_, Heap.get?_push_size _ rfl⟩, fun g1 g2 ⟨ob, k1, k2⟩ st => ⟨ob, st _ k1, k2⟩⟩
/-- list(d.values()) -/
theorem call_list_vals (hc : X.calm = true) : CallR X (.type "list") (fun vs H Q => ∃ v a es, vs = [.ref v] ∧ H v = some (ViewO a v) ∧ TabAt X.prog X.w H a es ∧ ∀ l, H l = none → Q (.ref l) (upd H l (.lst (es.map (·.2.2))))) := by
  intro pins s σ H vs us Q I rv h
  obtain ⟨v, a, es, rfl, hv, T, q⟩ := h
  obtain ⟨u, rfl, ru⟩ := rv.one
  obtain rfl : u = Value.ref v := ru
  obtain ⟨hd, xs, r, ob, ds, ep, h1, h2, h3, h4, h5, h6⟩ := T.have I.hok
  obtain ⟨hview, _, _⟩ := (show ObjOk X.prog X.w H s.heap v (ViewO a v) from I.hok v _ hv)
  have hview : s.heap.IsValuesView v a := hview
  have hsz : ds.size = xs.length := by
    rw [← Array.length_toList, h4, List.length_map]
  have hz := sz_ok r T.len
  refine W.kdl_call PySem.KdlSrc.rawValues (I.ok.hd hc) ⟨hview, ob, h1, h2, h3⟩ (by omega) fun h' tk acc' c' hk hS hacc => ?_
  have ea : acc'.toList = xs.map (·.2.2) := by
    refine List.ext_getElem? fun j => ?_
    by_cases hj : j < ds.size
    · have hj' : j < acc'.size := by rw [hacc.1]; exact hj
      obtain ⟨hi, e⟩ := hacc.2 j acc'[j] (by rw [Array.getElem?_eq_getElem hj'])
      have e2 : ds.toList[j]? = (xs.map (entryOfKey (nestedKind X.prog X.w)))[j]? := by rw [h4]
      rw [List.getElem?_map, Array.getElem?_toList, Array.getElem?_eq_getElem hj] at e2
      rw [Array.getElem?_toList, Array.getElem?_eq_getElem hj', e, List.getElem?_map]
      cases hx : xs[j]? with
      | none => rw [hx] at e2; cases e2
      | some x =>
        rw [hx] at e2
        rw [Option.some.inj e2]
        rfl
    · rw [List.getElem?_eq_none (by rw [Array.length_toList, hacc.1]; omega), List.getElem?_eq_none (by rw [List.length_map]; omega)]
  refine ⟨.ref s.heap.objs.size, _, I.laid (t' := tk) hk (Nat.le_refl _) (show ObjOk X.prog X.w _ h' _ (.lst (es.map (·.2.2))) from ⟨?_, acc'.toList, c', ?_, ?_⟩), rfl, q _ (I.hok.fresh (Nat.le_refl _))⟩
  · rw [List.length_map, Paired.length r]
    exact hz
  · rw [ea]
    exact r.vals
  · rw [Array.toArray_toList]
    exact hS
end
end XT
/-! own text: an own exception with an __init__ of its own as a value that is kept -/
namespace XE
open PySem PySem.Spec PyProof.Rows L2
/-- the exception at a, of the class at C, its dict at d -/
structure ExAt (H : Hp) (a C d : Addr) (fs : List (Str × V)) : Prop where
  e : H a = some (exo a C (some d))
  d : H d = some (exd d fs)
def tMkE (C : Addr) (sp : Sp) (dvs : List V) (ta : TA) : TE := fun σ H Q => ta σ H fun vs H1 => vs.length ≤ 1000 ∧ ∀ a, H1 a = none → sp (.ref a :: (vs ++ dvs)) (upd H1 a (exo a C none)) (fun v H2 => v = .non ∧ Q (.ref a) H2) (fun _ _ _ => False)
section
variable {X : Cx} {e : Expr} {es : List Expr} {ta : TA} {te : TE} {p pos : Pos}
theorem pe_mkE {CX : CXT} {x : Str} {C fI : Addr} {k : Nat} {fd : FuncData} {ps : List Str} {sp : Sp} {ds : List Value} {dvs : List V} (T : OexC X.K C) (iC : PySem.W.findIn X.K (.ref C) "__init__" = some (some (.ref fI))) (tI : PySem.W.typeIn X.K (.ref fI) = some (.type "function"))
    (F1 : FnOk X.prog X.w X.K X.mg X.base CX k fI fd ps sp) (hr : Room (k + 1) X.A) (hb : Binds X.K fd ps ds) (hd : Vals dvs ds) (hx : Passes CX X (fun _ _ _ => False)) (hg : Gl X x) (hm : X.mg x = some (.ref C)) (ha : PA X (e :: es) ta)
    (hdb : (x == ("__debug__" : Str)) = false := by decide) (he : starEach (e :: es) X.env = (false, eval e X.env) :: starEach es X.env := by rfl) (hpl : (backTo pos (starEach es X.env)).any (·.1) = false := by rfl) :
    PE X (.Call (.Name x p) (e :: es) [] pos) (tMkE C sp dvs ta) := by
  refine ⟨fun pins s σ H Q I h => ?_⟩
  obtain ⟨nm, q, N, bs, bm, sn, sub, ab, col, dd, k0, k1, k2, k3, k5, hC, hbm⟩ := T.cls
  refine wpAny_Call_Name_kw (ld_glob I hg hm ?_ hdb)
  refine PySem.W.callWith_K (h₀ := X.base) I.ok.mod.kin T.kC (thn (ha.run pos pins s σ H _ I h) fun us s1 ⟨vs, H1, I1, r1, hz, q1⟩ => ⟨I1.kIn, ?_⟩) he hpl
  show wpAny _ _ (call (.ref C) us) _ _ _
  obtain ⟨hp, g, dr, tk, os⟩ := s1
  have hsz : hp.objs.size ≤ hp.objs.size + 1 := Nat.le_succ _
  have hn : H1 (hp.objs.size + 1) = none := I1.hok.fresh hsz
  have hq := q1 (hp.objs.size + 1) hn
  have kk : ∀ b o, hp.get? b = some o → ((hp.push (PySem.W.kdv_tup us)).push (PySem.HandSPX.excO C hp.objs.size)).get? b = some o := fun b o e => Heap.get?_push_of_some _ (Heap.get?_push_of_some _ e)
  have hget : ((hp.push (PySem.W.kdv_tup us)).push (PySem.HandSPX.excO C hp.objs.size)).get? (hp.objs.size + 1) = some (PySem.HandSPX.excO C hp.objs.size) := by heap_get
  have I2 : Inv X pins σ (upd H1 (hp.objs.size + 1) (exo (hp.objs.size + 1) C none)) ⟨(hp.push (PySem.W.kdv_tup us)).push (PySem.HandSPX.excO C hp.objs.size), g, dr, tk, os⟩ :=
    I1.laid (t' := tk) (a := hp.objs.size + 1) (o := exo (hp.objs.size + 1) C none) (h' := (hp.push (PySem.W.kdv_tup us)).push (PySem.HandSPX.excO C hp.objs.size)) kk hsz (exo_ok hget)
  have r2 : Vals (V.ref (hp.objs.size + 1) :: (vs ++ dvs)) (Value.ref (hp.objs.size + 1) :: (us ++ ds)) := .cons rfl (r1.append hd)
  have hl : (Value.ref (hp.objs.size + 1) :: us ++ ds).length = ps.length := by
    have e := r2.length
    rw [F1.len _ _ _ _ hq] at e
    exact e.symm
  have hus : us.length ≤ sizeLine := by
    rw [← Paired.length r1, sizeLine_eq]
    omega
  refine wpAny_call (PySem.HandSPX.call_own F.excBase_ValueError (fun Y => PySem.HandSPX.refsVE_contains Y bm hbm) (I1.kIn _ _ hC) (PySem.W.looks_findIn I1.kIn iC) (fun self => PySem.W.bind_fn I1.kIn self tI) hus
    (codeAny_mono (F1.run _ X.stack _ _ ⟨Value.ref (hp.objs.size + 1) :: us, []⟩ (Value.ref (hp.objs.size + 1) :: (us ++ ds)) _ _ (fun _ _ _ => False) (hr.make C us []) (I2.env0.make C us []) (hb _ (Value.ref (hp.objs.size + 1) :: us) I2.kIn hl) r2 hq) fun r s' hq' => ?_))
  cases r with
  | error er => exact hx pins σ _ _ er s' I2 hq'
  | ok fl =>
    cases fl with
    | ret u =>
      obtain ⟨v, H', I3, rv, ev, q3⟩ := I2.after hq'
      subst ev
      exact ⟨rv, ⟨V.ref (hp.objs.size + 1), H', I3, rfl, q3⟩⟩
    | next => exact False.elim hq'
    | brk => exact False.elim hq'
    | cont => exact False.elim hq'
/-- e.n -/
def tXo (C : Addr) (n : Str) (te : TE) : TE := fun σ H Q => te σ H fun x H1 => ∃ a d fs v, x = .ref a ∧ ExAt H1 a C d fs ∧ fs.lookup n = some v ∧ Q v H1
theorem pe_xo {C : Addr} {n : Str} (T : XfC X.K C) (hno : PySem.W.findIn X.K (.ref C) n = some none) (he : PE X e te) (hb : attributeBase e n X.env (eval e X.env) = eval e X.env := by rfl) : PE X (.Attribute e n pos) (tXo C n te) := by
  refine ⟨fun pins s σ H Q I h => ?_⟩
  refine attr_of hb (thn (he.run pins s σ H _ I h) fun u s1 ⟨x, H1, I1, rx, a, d, fs, v, ex, T1, l, q⟩ => ?_)
  subst ex
  obtain rfl : u = Value.ref a := rx
  obtain ⟨t1, hoe⟩ := exo_at I1.hok T1.e
  obtain ⟨mA, hns, hr⟩ := exd_at I1.hok T1.d
  obtain ⟨od, ho, hl⟩ := lookIn_ns hns
  obtain ⟨u, hu, ru⟩ := RelO.some_of (v := v) (o := mA n) (by rw [← l]; exact hr n)
  have J : PySem.W.InstAt s1.heap a _ C (some od) := ⟨hoe, rfl, rfl, ho⟩
  exact HandSPX.exc_get I1.kIn J T.ga T.gg T.exC (PySem.W.findObj_own T.hdC hno rfl (by rw [hl, hu])) (handed_of ru) ⟨v, H1, I1.tok _, ru, q⟩
/-- isinstance(e, c) -/
theorem call_isEO {D : Addr} (C : ExcC X.K D) : CallR X (.builtin "isinstance") (fun xs H Q => ∃ a d fs c cv b, xs = [.ref a, c] ∧ ExAt H a D d fs ∧ (∀ u, RelV c u → u = cv) ∧ PySem.W.kitOne X.K (.ref D) cv = some b ∧ Q (.bl b) H) := by
  intro pins s σ H xs us Q I r h
  obtain ⟨a, d, fs, c, cv, b, rfl, T1, hcv, e, q⟩ := h
  cases r with
  | cons rx rr =>
    cases rr with
    | cons rt rr =>
      cases rr
      cases rx
      have ec := hcv _ rt
      subst ec
      obtain ⟨t1, hoe⟩ := exo_at I.hok T1.e
      obtain ⟨mA, hns, hr⟩ := exd_at I.hok T1.d
      obtain ⟨od, ho, hl⟩ := lookIn_ns hns
      have J : PySem.W.InstAt s.heap a _ D (some od) := ⟨hoe, rfl, rfl, ho⟩
      exact PySem.W.kia_one (PySem.W.xs_kitx C.hg C.hk C.hs C.hd C.ha C.hn C.ht C.hm) I.kIn J e (fun z => nomatch z) fun tk => ⟨.bl b, H, I.kept (t' := tk) fun _ _ z => z, rfl, q⟩
end
end XE
namespace My
open PySem L2 SX XT
open C8 (pss_cut tCut cutS_slice pe_gc)
def top (i : Nat) : Stmt := PySem.Challenge.pw_livequill_k30_tables_and_errors.main.body.getD i (.Pass ⟨0, 0, 0, 0⟩)
def Keep (p : Addr) (H H' : Hp) : Prop := ∀ b o, H b = some o → b ≠ p → H' b = some o
theorem Same.keep {p : Addr} {H H' : Hp} (s : Same H H') : Keep p H H' := fun b o e _ => s b o e
theorem Keep.trans {p : Addr} {H H1 H2 : Hp} (a : Keep p H H1) (b : Keep p H1 H2) : Keep p H H2 := fun c o e n => b c o (a c o e n) n
theorem keep_upd {p : Addr} {H : Hp} {o : HO} : Keep p H (upd H p o) := fun b x e n => by
  rw [upd_ne n]
  exact e
theorem same_upd {H : Hp} {p : Addr} {o : HO} (h : H p = none) : Same H (upd H p o) := fun b x e => by
  rw [upd_ne (ne_of_none e h)]
  exact e
theorem lk_hit {k : Str} {v : V} {r : List (Str × V)} : ((k, v) :: r).lookup k = some v := by
  simp [List.lookup]
structure Bl (mg : Str → Option Value) : Prop where
  range : mg "range" = none
  len : mg "len" = none
  int : mg "int" = none
  bool : mg "bool" = none
  isinstance : mg "isinstance" = none
  list : mg "list" = none
  abs : mg "abs" = none
  min : mg "min" = none
  max : mg "max" = none
/-! ### a table, its entries a dict of the kind that XT tells -/
def tabF (d : Addr) : List (Str × V) := [("_entries", .ref d)]
/-- the table at t, its dict at d, its entries -/
structure TblAt (P : Program) (w : World) (cT : Addr) (H : Hp) (t : Addr) (d : Addr) (es : List Ent) : Prop where
  ins : ∃ dx, H t = some (.ins cT dx (tabF d))
  tab : XT.TabAt P w H d es
  vals : ∀ e ∈ es, ∃ q, e.2.2 = .ref q ∧ ∃ v, H q = some (.tup [e.1, v])
structure Tc (K : PySem.W.Frag) (cT : Addr) : Prop where
  cl : Cls K cT
  n1 : PySem.W.findIn K (.ref cT) "_entries" = some none
section
variable {P : Program} {w : World} {K : PySem.W.Frag} {mg : Str → Option Value} {base : Heap} {cT : Addr}
theorem kit_bool_bool : PySem.W.kitOne K (.type "bool") (.type "bool") = some true := kit_ty (show kitB "bool" "bool" = some true by decide +kernel)
theorem kit_int_bool : PySem.W.kitOne K (.type "int") (.type "bool") = some false := kit_ty (show kitB "int" "bool" = some false by decide +kernel)
theorem kit_str_bool : PySem.W.kitOne K (.type "str") (.type "bool") = some false := kit_ty (show kitB "str" "bool" = some false by decide +kernel)
theorem kit_non_bool : PySem.W.kitOne K (.type "NoneType") (.type "bool") = some false := kit_ty (show kitB "NoneType" "bool" = some false by decide +kernel)
/-! ### tagged -/
abbrev sTagged : Stmt := top 3
theorem scTagged : FnScope ["key"] ["key"] (defScope sTagged) := ⟨rfl, rfl, rfl, by decide +kernel, rfl, by decide +kernel, by decide +kernel⟩
def spTagged : Sp := fun vs H Q _ => ∃ k, vs = [k] ∧ keyOk k = true ∧ ∀ p, H p = none → Q (.ref p) (upd H p (.tup [.bl (isB k), k]))
theorem ok_tagged {f : Addr} {fd : FuncData} (F : Fun K "tagged" "tagged" sTagged f fd) (B : Bl mg) : FnOk P w K mg base CX0 1 f fd ["key"] spTagged := by
  refine F.ok scTagged (fun vs H Q E h => ?_) (fun cdv A outer s H vs Q E hr h => ?_)
  · obtain ⟨k, rfl, _⟩ := h
    rfl
  · obtain ⟨k, rfl, hk, q⟩ := h
    refine ⟨_, pss_one (ps_ret (pe_tup (pa_cons (pe_callB call_isi (by rfl) B.isinstance (by decide +kernel) (pa_cons (pv 0) (pa_cons (pe_bltn (v := .ty "bool") (by rfl) B.bool (by decide +kernel) rfl) pa_nil))) (pa_cons (pv 0) pa_nil)))), ?_⟩
    cases k with
    | non => exact ⟨_, rfl, _, .ty "bool", _, _, false, rfl, .ty _, .base .non, kit_non_bool, _, rfl, (by show 2 ≤ sizeLine; decide), fun p np => q p np⟩
    | bl b => exact ⟨_, rfl, _, .ty "bool", _, _, true, rfl, .ty _, .base (.bl b), kit_bool_bool, _, rfl, (by show 2 ≤ sizeLine; decide), fun p np => q p np⟩
    | int i => exact ⟨_, rfl, _, .ty "bool", _, _, false, rfl, .ty _, .base (.int i), kit_int_bool, _, rfl, (by show 2 ≤ sizeLine; decide), fun p np => q p np⟩
    | str x => exact ⟨_, rfl, _, .ty "bool", _, _, false, rfl, .ty _, .base (.str x), kit_str_bool, _, rfl, (by show 2 ≤ sizeLine; decide), fun p np => q p np⟩
    | _ => cases hk
/-! ### the methods -/
abbrev sTI : Stmt := inClass (top 2) 0
abbrev sTHas : Stmt := inClass (top 2) 1
abbrev sTValue : Stmt := inClass (top 2) 2
abbrev sTPut : Stmt := inClass (top 2) 3
abbrev sTTake : Stmt := inClass (top 2) 4
abbrev sTPairs : Stmt := inClass (top 2) 5
abbrev sTMany : Stmt := inClass (top 2) 6
theorem scTI : FnScope ["self"] ["self"] (defScope sTI) := ⟨rfl, rfl, rfl, by decide +kernel, rfl, by decide +kernel, by decide +kernel⟩
theorem scTHas : FnScope ["self", "key"] ["self", "key"] (defScope sTHas) := ⟨rfl, rfl, rfl, by decide +kernel, rfl, by decide +kernel, by decide +kernel⟩
theorem scTValue : FnScope ["self", "key"] ["self", "key"] (defScope sTValue) := ⟨rfl, rfl, rfl, by decide +kernel, rfl, by decide +kernel, by decide +kernel⟩
theorem scTPut : FnScope ["self", "key", "value"] ["self", "key", "value"] (defScope sTPut) := ⟨rfl, rfl, rfl, by decide +kernel, rfl, by decide +kernel, by decide +kernel⟩
theorem scTTake : FnScope ["self", "key"] ["self", "key"] (defScope sTTake) := ⟨rfl, rfl, rfl, by decide +kernel, rfl, by decide +kernel, by decide +kernel⟩
theorem scTPairs : FnScope ["self"] ["self"] (defScope sTPairs) := ⟨rfl, rfl, rfl, by decide +kernel, rfl, by decide +kernel, by decide +kernel⟩
theorem scTMany : FnScope ["self"] ["self"] (defScope sTMany) := ⟨rfl, rfl, rfl, by decide +kernel, rfl, by decide +kernel, by decide +kernel⟩
theorem tab_lk (d : Addr) : (tabF d).lookup ("_entries" : Str) = some (.ref d) := lk_hit
def spTI (P : Program) (w : World) (cT : Addr) : Sp := fun vs H Q _ => ∃ t dx, vs = [.ref t] ∧ H t = some (.ins cT dx []) ∧ ∀ H' d, Keep t H H' → H d = none → TblAt P w cT H' t d [] → Q .non H'
theorem ok_TI {f : Addr} {fd : FuncData} (F : Fun K "__init__" "Table.__init__" sTI f fd) (C : Tc K cT) : FnOk P w K mg base CX0 1 f fd ["self"] (spTI P w cT) := by
  refine F.ok scTI (fun vs H Q E h => ?_) (fun cdv A outer s H vs Q E hr h => ?_)
  · obtain ⟨t, dx, rfl, _⟩ := h
    rfl
  · obtain ⟨t, dx, rfl, ha, q⟩ := h
    refine ⟨_, pss_one (ps_fld (pv 0) pe_tnew rfl), ?_⟩
    refine fun d nd => ⟨_, rfl, t, cT, dx, [], rfl, (by rw [upd_ne (ne_of_none ha nd)]; exact ha), C.cl, C.n1, (by show 0 < 1000; decide), ?_⟩
    have ntd : d ≠ t := fun z => by rw [z, ha] at nd; cases nd
    refine q _ d (fun b o e n => by rw [upd_ne n, upd_ne (ne_of_none e nd)]; exact e) nd ⟨⟨dx, upd_same⟩, ⟨by rw [upd_ne ntd, upd_same]; rfl, (fun e he => nomatch he), Nat.zero_le _⟩, (fun e he => nomatch he)⟩
theorem units64 {A : Around} {k : Nat} (hr : Room k A) : A.units + 64 < cLine := hr.units
structure Tm (K : PySem.W.Frag) (mg : Str → Option Value) (kT : Addr) (uT : FuncData) : Prop where
  f : Fun K "tagged" "tagged" sTagged kT uT
  b : Binds K uT ["key"] []
  g : mg "tagged" = some (.ref kT)
variable {kT : Addr} {uT : FuncData}
/-- only new things were made -/
def spTHas (P : Program) (w : World) (cT : Addr) : Sp := fun vs H Q _ => ∃ t d es k, vs = [.ref t, k] ∧ TblAt P w cT H t d es ∧ keyOk k = true ∧ ∀ H', Same H H' → Q (.bl (valT es k).isSome) H'
theorem TblAt.same {H H' : Hp} {t d : Addr} {es : List Ent} (s : Same H H') (h : TblAt P w cT H t d es) : TblAt P w cT H' t d es := by
  obtain ⟨⟨dx, h1⟩, h2, h3⟩ := h
  refine ⟨⟨dx, s _ _ h1⟩, ⟨s _ _ h2.at_, fun e he => ⟨(h2.keys e he).1, s _ _ (h2.keys e he).2⟩, h2.len⟩, fun e he => ?_⟩
  obtain ⟨q, e1, v, e2⟩ := h3 e he
  exact ⟨q, e1, v, s _ _ e2⟩
theorem ok_THas {f : Addr} {fd : FuncData} (F : Fun K "has" "Table.has" sTHas f fd) (B : Bl mg) (C : Tc K cT) (M : Tm K mg kT uT) : FnOk P w K mg base CX0 2 f fd ["self", "key"] (spTHas P w cT) := by
  have GT : FnOk P w K mg base CX0 1 kT uT ["key"] spTagged := ok_tagged M.f B
  refine F.ok scTHas (fun vs H Q E h => ?_) (fun cdv A outer s H vs Q E hr h => ?_)
  · obtain ⟨t, d, es, k, rfl, _⟩ := h
    rfl
  · obtain ⟨t, d, es, k, rfl, T, hk, q⟩ := h
    refine ⟨_, pss_one (ps_ret (pe_cmp (pc_tin (units64 hr) (pe_call GT hr (by rfl) M.g M.f.kp M.b .nil pass0 (pa_cons (pv 1) pa_nil)) (pe_fld (pv 0) rfl)))), ?_⟩
    refine ⟨_, rfl, k, rfl, hk, fun p np => ?_⟩
    have u1 := same_upd (o := .tup [.bl (isB k), k]) np
    obtain ⟨⟨dx, h1⟩, h2, h3⟩ := T.same u1
    exact ⟨_, rfl, t, cT, dx, _, _, rfl, h1, C.cl, C.n1, tab_lk d, d, p, k, es, rfl, rfl, h2, ⟨hk, upd_same⟩, q _ u1⟩
def spTValue (P : Program) (w : World) (cT : Addr) : Sp := fun vs H Q _ => ∃ t d es k q v, vs = [.ref t, k] ∧ TblAt P w cT H t d es ∧ keyOk k = true ∧ valT es k = some (.ref q) ∧ H q = some (.tup [k, v]) ∧ ∀ H', Same H H' → Q v H'
theorem ok_TValue {f : Addr} {fd : FuncData} (F : Fun K "value_of" "Table.value_of" sTValue f fd) (B : Bl mg) (C : Tc K cT) (M : Tm K mg kT uT) : FnOk P w K mg base CX0 2 f fd ["self", "key"] (spTValue P w cT) := by
  have GT : FnOk P w K mg base CX0 1 kT uT ["key"] spTagged := ok_tagged M.f B
  refine F.ok scTValue (fun vs H Q E h => ?_) (fun cdv A outer s H vs Q E hr h => ?_)
  · obtain ⟨t, d, es, k, q, v, rfl, _⟩ := h
    rfl
  · obtain ⟨t, d, es, k, q, v, rfl, T, hk, hv, hq, kk⟩ := h
    refine ⟨_, pss_one (ps_ret (pe_ix ix_tup (pe_tget (units64 hr) (pe_fld (pv 0) rfl) (pe_call GT hr (by rfl) M.g M.f.kp M.b .nil pass0 (pa_cons (pv 1) pa_nil)) (fun _ _ => rfl)) pe_int (fun _ _ => rfl))), ?_⟩
    obtain ⟨⟨dx, h1⟩, h2, h3⟩ := id T
    refine ⟨_, rfl, t, cT, dx, _, _, rfl, h1, C.cl, C.n1, tab_lk d, _, rfl, k, rfl, hk, fun p np => ?_⟩
    have u1 := same_upd (o := .tup [.bl (isB k), k]) np
    exact ⟨d, p, k, es, .ref q, rfl, rfl, (T.same u1).tab, ⟨hk, upd_same⟩, hv, q, _, _, _, rfl, rfl, .inl (.inl (u1 _ _ hq)), atI_nat (j := 1) rfl, kk _ u1⟩
def spTPut (P : Program) (w : World) (cT : Addr) : Sp := fun vs H Q _ => ∃ t d es k v, vs = [.ref t, k, v] ∧ TblAt P w cT H t d es ∧ keyOk k = true ∧ es.length < 1000000 ∧
  ∀ H' b q, Keep d H H' → TblAt P w cT H' t d (putT es k b (.ref q)) → H' q = some (.tup [k, v]) → H q = none → Q .non H'
theorem ok_TPut {f : Addr} {fd : FuncData} (F : Fun K "put" "Table.put" sTPut f fd) (B : Bl mg) (C : Tc K cT) (M : Tm K mg kT uT) : FnOk P w K mg base CX0 2 f fd ["self", "key", "value"] (spTPut P w cT) := by
  have GT : FnOk P w K mg base CX0 1 kT uT ["key"] spTagged := ok_tagged M.f B
  refine F.ok scTPut (fun vs H Q E h => ?_) (fun cdv A outer s H vs Q E hr h => ?_)
  · obtain ⟨t, d, es, k, v, rfl, _⟩ := h
    rfl
  · obtain ⟨t, d, es, k, v, rfl, T, hk, hl, kk⟩ := h
    refine ⟨_, pss_one (ps_tput (units64 hr) (pe_fld (pv 0) rfl) (pe_call GT hr (by rfl) M.g M.f.kp M.b .nil pass0 (pa_cons (pv 1) pa_nil)) (pe_tup (pa_cons (pv 1) (pa_cons (pv 2) pa_nil))) (by rfl)), ?_⟩
    refine ⟨_, rfl, _, rfl, (by show 2 ≤ sizeLine; decide), fun q nq => ?_⟩
    have u1 := same_upd (o := .tup [k, v]) nq
    obtain ⟨⟨dx, h1⟩, h2, h3⟩ := T.same u1
    refine ⟨_, rfl, t, cT, dx, _, _, rfl, h1, C.cl, C.n1, tab_lk d, _, rfl, k, rfl, hk, fun p np => ?_⟩
    have u2 := same_upd (o := .tup [.bl (isB k), k]) np
    obtain ⟨⟨dx2, g1⟩, g2, g3⟩ := (T.same u1).same u2
    refine ⟨d, p, k, es, rfl, rfl, g2, ⟨hk, upd_same⟩, ?_⟩
    have ntd : t ≠ d := fun z => by rw [z, g2.at_] at g1; cases g1
    have nqd : q ≠ d := fun z => by rw [z] at nq; rw [T.tab.at_] at nq; cases nq
    have hq2 := u2 _ _ (upd_same (H := H) (a := q) (o := .tup [k, v]))
    refine kk _ p q (fun b o e n => by rw [upd_ne n]; exact u2 _ _ (u1 _ _ e)) ⟨⟨dx2, by rw [upd_ne ntd]; exact g1⟩, g2.put ⟨hk, upd_same⟩ hl, fun e he => ?_⟩ (by rw [upd_ne nqd]; exact hq2) nq
    have old : ∀ e ∈ es, ∃ q', e.2.2 = .ref q' ∧ ∃ v', (upd (upd (upd H q (.tup [k, v])) p (.tup [.bl (isB k), k])) d (TabO P w d (putT es k p (.ref q)))) q' = some (.tup [e.1, v']) := fun e he => by
      obtain ⟨q', e1, v', e2⟩ := g3 e he
      exact ⟨q', e1, v', by rw [upd_ne (fun z => by rw [z, g2.at_] at e2; cases e2)]; exact e2⟩
    unfold putT at he
    split at he
    · obtain ⟨e0, h0, ee⟩ := List.mem_map.mp he
      split at ee
      · rename_i hk0
        subst ee
        exact ⟨q, rfl, v, by rw [upd_ne nqd, hk0]; exact hq2⟩
      · subst ee
        exact old e0 h0
    · rcases List.mem_append.mp he with he | he
      · exact old e he
      · rw [List.mem_singleton] at he
        subst he
        exact ⟨q, rfl, v, by rw [upd_ne nqd]; exact hq2⟩
end
end My
namespace My
open PySem L2 SX XT
open C8 (pss_cut tCut cutS_slice pe_gc)
theorem ifF {b : Bool} {A B : Prop} (h : b = false) (q : B) : if b = true then A else B := by
  rw [h]
  exact iteF q
theorem ifT {b : Bool} {A B : Prop} (h : b = true) (q : A) : if b = true then A else B := by
  rw [h]
  exact iteT q
theorem ite_or {b : Bool} {A B : Prop} (h1 : b = true → A) (h2 : b = false → B) : if b = true then A else B := by
  cases b with
  | true => exact iteT (h1 rfl)
  | false => exact iteF (h2 rfl)
section
variable {P : Program} {w : World} {K : PySem.W.Frag} {mg : Str → Option Value} {base : Heap} {cT kT : Addr} {uT : FuncData}
def spTTake (P : Program) (w : World) (cT : Addr) : Sp := fun vs H Q _ => ∃ t d es k, vs = [.ref t, k] ∧ TblAt P w cT H t d es ∧ keyOk k = true ∧ (valT es k).isSome = true ∧ ∀ H', Keep d H H' → TblAt P w cT H' t d (dropT es k) → Q .non H'
theorem ok_TTake {f : Addr} {fd : FuncData} (F : Fun K "take_out" "Table.take_out" sTTake f fd) (B : Bl mg) (C : Tc K cT) (M : Tm K mg kT uT) : FnOk P w K mg base CX0 2 f fd ["self", "key"] (spTTake P w cT) := by
  have GT : FnOk P w K mg base CX0 1 kT uT ["key"] spTagged := ok_tagged M.f B
  refine F.ok scTTake (fun vs H Q E h => ?_) (fun cdv A outer s H vs Q E hr h => ?_)
  · obtain ⟨t, d, es, k, rfl, _⟩ := h
    rfl
  · obtain ⟨t, d, es, k, rfl, T, hk, hv, kk⟩ := h
    refine ⟨_, pss_one (ps_tdel (units64 hr) (pe_fld (pv 0) rfl) (pe_call GT hr (by rfl) M.g M.f.kp M.b .nil pass0 (pa_cons (pv 1) pa_nil))), ?_⟩
    obtain ⟨⟨dx, h1⟩, h2, h3⟩ := id T
    refine ⟨_, rfl, t, cT, dx, _, _, rfl, h1, C.cl, C.n1, tab_lk d, _, rfl, k, rfl, hk, fun p np => ?_⟩
    have u1 := same_upd (o := .tup [.bl (isB k), k]) np
    obtain ⟨⟨dx2, g1⟩, g2, g3⟩ := T.same u1
    have ntd : t ≠ d := fun z => by rw [z, g2.at_] at g1; cases g1
    refine ⟨d, p, k, es, rfl, rfl, g2, ⟨hk, upd_same⟩, hv, kk _ (fun b o e n => by rw [upd_ne n]; exact u1 _ _ e) ⟨⟨dx2, by rw [upd_ne ntd]; exact g1⟩, g2.drop, fun e he => ?_⟩⟩
    obtain ⟨q', e1, v', e2⟩ := g3 e (List.mem_filter.mp he).1
    exact ⟨q', e1, v', by rw [upd_ne (fun z => by rw [z, g2.at_] at e2; cases e2)]; exact e2⟩
def spTPairs (P : Program) (w : World) (cT : Addr) : Sp := fun vs H Q _ => ∃ t d es, vs = [.ref t] ∧ TblAt P w cT H t d es ∧ ∀ H' l, Same H H' → H l = none → H' l = some (.lst (es.map (·.2.2))) → Q (.ref l) H'
theorem ok_TPairs {f : Addr} {fd : FuncData} (F : Fun K "pairs" "Table.pairs" sTPairs f fd) (B : Bl mg) (C : Tc K cT) : FnOk P w K mg base CX0 1 f fd ["self"] (spTPairs P w cT) := by
  refine F.ok scTPairs (fun vs H Q E h => ?_) (fun cdv A outer s H vs Q E hr h => ?_)
  · obtain ⟨t, d, es, rfl, _⟩ := h
    rfl
  · obtain ⟨t, d, es, rfl, T, kk⟩ := h
    refine ⟨_, pss_one (ps_ret (pe_callTy (call_list_vals rfl) (by rfl) B.list (by decide +kernel) (pa_cons (pe_tvals (pe_fld (pv 0) rfl)) pa_nil))), ?_⟩
    obtain ⟨⟨dx, h1⟩, h2, h3⟩ := id T
    refine ⟨_, rfl, t, cT, dx, _, _, rfl, h1, C.cl, C.n1, tab_lk d, d, es, rfl, h2, fun v nv => ?_⟩
    have u1 := same_upd (o := ViewO d v) nv
    refine ⟨v, d, es, rfl, upd_same, (T.same u1).tab, fun l nl => ?_⟩
    have u2 := same_upd (o := .lst (es.map (·.2.2))) nl
    refine kk _ l (u1.trans u2) ?_ upd_same
    cases e : H l with
    | none => rfl
    | some o =>
      rw [u1 _ _ e] at nl
      cases nl
def spTMany (P : Program) (w : World) (cT : Addr) : Sp := fun vs H Q _ => ∃ t d es, vs = [.ref t] ∧ TblAt P w cT H t d es ∧ Q (.int (es.length : Nat)) H
theorem ok_TMany {f : Addr} {fd : FuncData} (F : Fun K "many" "Table.many" sTMany f fd) (B : Bl mg) (C : Tc K cT) : FnOk P w K mg base CX0 1 f fd ["self"] (spTMany P w cT) := by
  refine F.ok scTMany (fun vs H Q E h => ?_) (fun cdv A outer s H vs Q E hr h => ?_)
  · obtain ⟨t, d, es, rfl, _⟩ := h
    rfl
  · obtain ⟨t, d, es, rfl, T, kk⟩ := h
    refine ⟨_, pss_one (ps_ret (pe_callB call_len_tab (by rfl) B.len PySem.boot_len (pa_cons (pe_fld (pv 0) rfl) pa_nil))), ?_⟩
    obtain ⟨⟨dx, h1⟩, h2, h3⟩ := id T
    exact ⟨_, rfl, t, cT, dx, _, _, rfl, h1, C.cl, C.n1, tab_lk d, d, es, rfl, h2, kk⟩
/-! ### _law_same -/
abbrev sLSame : Stmt := top 25
theorem scLSame : FnScope ["x", "y"] ["x", "y"] (defScope sLSame) := ⟨rfl, rfl, rfl, by decide +kernel, rfl, by decide +kernel, by decide +kernel⟩
def spLSame : Sp := fun vs H Q _ => ∃ x y, vs = [x, y] ∧ keyOk x = true ∧ keyOk y = true ∧ Q (.bl (decide (x = y))) H
theorem kit_of_key {x : V} (h : keyOk x = true) : ∃ t, ∀ H, TyX K H x t ∧ PySem.W.kitOne K t (.type "bool") = some (isB x) := by
  cases x with
  | non => exact ⟨_, fun H => ⟨.base .non, kit_non_bool⟩⟩
  | bl b => exact ⟨_, fun H => ⟨.base (.bl b), kit_bool_bool⟩⟩
  | int i => exact ⟨_, fun H => ⟨.base (.int i), kit_int_bool⟩⟩
  | str x => exact ⟨_, fun H => ⟨.base (.str x), kit_str_bool⟩⟩
  | _ => cases h
theorem ok_lsame {f : Addr} {fd : FuncData} (F : Fun K "_law_same" "_law_same" sLSame f fd) (B : Bl mg) : FnOk P w K mg base CX0 1 f fd ["x", "y"] spLSame := by
  refine F.ok scLSame (fun vs H Q E h => ?_) (fun cdv A outer s H vs Q E hr h => ?_)
  · obtain ⟨x, y, rfl, _⟩ := h
    rfl
  · obtain ⟨x, y, rfl, hx, hy, q⟩ := h
    refine ⟨_, pss_one (ps_ret (pe_and (pe_cmpR op_eq (pe_callB call_isi (by rfl) B.isinstance (by decide +kernel) (pa_cons (pv 0) (pa_cons (pe_bltn (v := .ty "bool") (by rfl) B.bool (by decide +kernel) rfl) pa_nil))) (pe_callB call_isi (by rfl) B.isinstance (by decide +kernel) (pa_cons (pv 1) (pa_cons (pe_bltn (v := .ty "bool") (by rfl) B.bool (by decide +kernel) rfl) pa_nil))) (nomark _))
      (pe_one (pe_cmpR op_eq (pv 0) (pv 1) (nomark _))))), ?_⟩
    obtain ⟨tx, ex⟩ := kit_of_key (K := K) hx
    obtain ⟨ty, ey⟩ := kit_of_key (K := K) hy
    have hs : isB x = isB y → scal x y = true := fun e => by
      cases x <;> cases y <;> first | rfl | (cases hx; done) | (cases hy; done) | (cases e; done)
    refine ⟨_, rfl, _, .ty "bool", _, _, isB x, rfl, .ty _, (ex H).1, (ex H).2, _, rfl, _, .ty "bool", _, _, isB y, rfl, .ty _, (ey H).1, (ey H).2, rfl, _, rfl, ?_⟩
    by_cases e : isB x = isB y
    · exact ifT (by rw [e]; simp) ⟨_, rfl, _, rfl, hs e, q⟩
    · refine ifF (by simpa using e) ?_
      rw [show decide (x = y) = false from decide_eq_false fun z => e (by rw [z])] at q
      exact q
end
end My
namespace My
open PySem L2 SX XT
abbrev Rw := V × V
def RwsAt (H : Hp) : List V → List Rw → Prop
  | [], [] => True
  | v :: vs, r :: rs => (∃ q, v = .ref q ∧ H q = some (.tup [r.1, r.2]) ∧ keyOk r.1 = true ∧ keyOk r.2 = true) ∧ RwsAt H vs rs
  | _, _ => False
theorem RwsAt.len {H : Hp} : ∀ {vs : List V} {rs : List Rw}, RwsAt H vs rs → vs.length = rs.length
  | [], [], _ => rfl
  | _ :: _, _ :: _, h => by
    have := RwsAt.len h.2
    simp [this]
  | [], _ :: _, h => h.elim
  | _ :: _, [], h => h.elim
theorem RwsAt.get {H : Hp} : ∀ {vs : List V} {rs : List Rw} {i : Nat} {r : Rw}, RwsAt H vs rs → rs[i]? = some r → ∃ q, vs[i]? = some (V.ref q) ∧ H q = some (.tup [r.1, r.2]) ∧ keyOk r.1 = true ∧ keyOk r.2 = true
  | [], [], _, _, _, e => by simp at e
  | v :: vs, r :: rs, 0, r', h, e => by
    simp at e
    subst e
    obtain ⟨q, e1, e2⟩ := h.1
    exact ⟨q, by rw [e1]; rfl, e2⟩
  | _ :: vs, _ :: rs, i + 1, r', h, e => by
    simp at e
    obtain ⟨q, e1, e2⟩ := RwsAt.get h.2 e
    exact ⟨q, by simpa using e1, e2⟩
  | [], _ :: _, _, _, h, _ => h.elim
  | _ :: _, [], _, _, h, _ => h.elim
theorem RwsAt.imp {H H' : Hp} (s : ∀ b xs, H b = some (.tup xs) → H' b = some (.tup xs)) : ∀ {vs : List V} {rs : List Rw}, RwsAt H vs rs → RwsAt H' vs rs
  | [], [], _ => trivial
  | _ :: _, _ :: _, ⟨⟨q, e1, e2, e3⟩, t⟩ => ⟨⟨q, e1, s _ _ e2, e3⟩, RwsAt.imp s t⟩
  | [], _ :: _, h => h.elim
  | _ :: _, [], h => h.elim
theorem RwsAt.snoc {H : Hp} {q : Addr} {r : Rw} (h1 : H q = some (.tup [r.1, r.2])) (h2 : keyOk r.1 = true) (h3 : keyOk r.2 = true) : ∀ {vs : List V} {rs : List Rw}, RwsAt H vs rs → RwsAt H (vs ++ [.ref q]) (rs ++ [r])
  | [], [], _ => ⟨⟨q, rfl, h1, h2, h3⟩, trivial⟩
  | _ :: _, _ :: _, h => ⟨h.1, RwsAt.snoc h1 h2 h3 h.2⟩
  | [], _ :: _, h => h.elim
  | _ :: _, [], h => h.elim
theorem RwsAt.set {H : Hp} {q : Addr} {r : Rw} (h1 : H q = some (.tup [r.1, r.2])) (h2 : keyOk r.1 = true) (h3 : keyOk r.2 = true) : ∀ {vs : List V} {rs : List Rw} (i : Nat), RwsAt H vs rs → RwsAt H (vs.set i (.ref q)) (rs.set i r)
  | [], [], _, _ => trivial
  | _ :: _, _ :: _, 0, h => ⟨⟨q, rfl, h1, h2, h3⟩, h.2⟩
  | _ :: _, _ :: _, i + 1, h => ⟨h.1, RwsAt.set h1 h2 h3 i h.2⟩
  | [], _ :: _, _, h => h.elim
  | _ :: _, [], _, h => h.elim
theorem RwsAt.erase {H : Hp} : ∀ {vs : List V} {rs : List Rw} (i : Nat), RwsAt H vs rs → RwsAt H (vs.eraseIdx i) (rs.eraseIdx i)
  | [], [], _, _ => trivial
  | _ :: _, _ :: _, 0, h => h.2
  | _ :: _, _ :: _, i + 1, h => ⟨h.1, RwsAt.erase i h.2⟩
  | [], _ :: _, _, h => h.elim
  | _ :: _, [], _, h => h.elim
/-- the table's entries and the law's rows -/
structure Eq2 (H : Hp) (es : List Ent) (rs : List Rw) : Prop where
  rw_ : RwsAt H (es.map (·.2.2)) rs
  ks : es.map (·.1) = rs.map (·.1)
  nd : (rs.map (·.1)).Nodup
theorem Eq2.len {H : Hp} {es : List Ent} {rs : List Rw} (h : Eq2 H es rs) : es.length = rs.length := by
  have := congrArg List.length h.ks
  simpa using this
theorem val_at {k : V} : ∀ {es : List Ent} {i : Nat} {e : Ent}, (es.map (·.1)).Nodup → es[i]? = some e → e.1 = k → valT es k = some e.2.2
  | [], _, _, _, h, _ => by simp at h
  | e0 :: es, 0, e, _, h, hk => by
    simp at h
    subst h
    unfold valT
    rw [List.find?_cons, show decide (e0.1 = k) = true from decide_eq_true hk]
    rfl
  | e0 :: es, i + 1, e, hn, h, hk => by
    simp at h
    rw [List.map_cons, List.nodup_cons] at hn
    have hne : ¬ e0.1 = k := fun z => hn.1 (by rw [z, ← hk]; exact List.mem_map.mpr ⟨e, List.mem_of_getElem? h, rfl⟩)
    have := val_at hn.2 h hk
    unfold valT at this ⊢
    rw [List.find?_cons, show decide (e0.1 = k) = false from decide_eq_false hne]
    exact this
theorem val_no {k : V} : ∀ {es : List Ent}, (∀ e ∈ es, e.1 ≠ k) → valT es k = none
  | [], _ => rfl
  | e0 :: es, h => by
    have := val_no (k := k) (es := es) fun e m => h e (List.mem_cons_of_mem _ m)
    unfold valT at this ⊢
    rw [List.find?_cons, show decide (e0.1 = k) = false from decide_eq_false (h e0 (List.mem_cons_self ..))]
    exact this
theorem drop_erase {k : V} : ∀ {es : List Ent} {i : Nat} {e : Ent}, (es.map (·.1)).Nodup → es[i]? = some e → e.1 = k → dropT es k = es.eraseIdx i
  | [], _, _, _, h, _ => by simp at h
  | e0 :: es, 0, e, hn, h, hk => by
    simp at h
    subst h
    rw [List.map_cons, List.nodup_cons] at hn
    unfold dropT
    rw [List.filter_cons, if_neg (by simp [hk])]
    show _ = es
    refine List.filter_eq_self.mpr fun e m => ?_
    refine decide_eq_true fun z => hn.1 ?_
    rw [hk, ← z]
    exact List.mem_map.mpr ⟨e, m, rfl⟩
  | e0 :: es, i + 1, e, hn, h, hk => by
    simp at h
    rw [List.map_cons, List.nodup_cons] at hn
    have hne : ¬ e0.1 = k := fun z => hn.1 (by rw [z, ← hk]; exact List.mem_map.mpr ⟨e, List.mem_of_getElem? h, rfl⟩)
    have := drop_erase hn.2 h hk
    unfold dropT at this ⊢
    rw [List.filter_cons, if_pos (by simpa using hne), this]
    rfl
theorem map_set {k v : V} : ∀ {es : List Ent} {i : Nat} {e : Ent}, (es.map (·.1)).Nodup → es[i]? = some e → e.1 = k → es.map (fun e => if e.1 = k then (e.1, e.2.1, v) else e) = es.set i (e.1, e.2.1, v)
  | [], _, _, _, h, _ => by simp at h
  | e0 :: es, 0, e, hn, h, hk => by
    simp at h
    subst h
    rw [List.map_cons, List.nodup_cons] at hn
    rw [List.map_cons, if_pos hk]
    show _ :: _ = _ :: es
    have : es.map (fun e => if e.1 = k then (e.1, e.2.1, v) else e) = es.map id := List.map_congr_left fun e m => if_neg fun z => hn.1 (by rw [hk, ← z]; exact List.mem_map.mpr ⟨e, m, rfl⟩)
    rw [this, List.map_id]
  | e0 :: es, i + 1, e, hn, h, hk => by
    simp at h
    rw [List.map_cons, List.nodup_cons] at hn
    have hne : ¬ e0.1 = k := fun z => hn.1 (by rw [z, ← hk]; exact List.mem_map.mpr ⟨e, List.mem_of_getElem? h, rfl⟩)
    rw [List.map_cons, if_neg hne, map_set hn.2 h hk]
    rfl
theorem Eq2.at {H : Hp} {es : List Ent} {rs : List Rw} (h : Eq2 H es rs) {i : Nat} {r : Rw} (hr : rs[i]? = some r) : ∃ e q, es[i]? = some e ∧ e.1 = r.1 ∧ e.2.2 = .ref q ∧ H q = some (.tup [r.1, r.2]) ∧ keyOk r.1 = true ∧ keyOk r.2 = true := by
  obtain ⟨q, e1, e2, e3, e4⟩ := h.rw_.get hr
  rw [List.getElem?_map] at e1
  cases he : es[i]? with
  | none => rw [he] at e1; cases e1
  | some e =>
    rw [he] at e1
    have hk := congrArg (fun l => l[i]?) h.ks
    simp only [List.getElem?_map, he, hr] at hk
    exact ⟨e, q, rfl, Option.some.inj hk, Option.some.inj e1, e2, e3, e4⟩
theorem Eq2.nd' {H : Hp} {es : List Ent} {rs : List Rw} (h : Eq2 H es rs) : (es.map (·.1)).Nodup := by
  rw [h.ks]
  exact h.nd
theorem Eq2.no {H : Hp} {es : List Ent} {rs : List Rw} (h : Eq2 H es rs) {k : V} (hn : ∀ r ∈ rs, r.1 ≠ k) : valT es k = none := by
  refine val_no fun e m z => ?_
  have : k ∈ rs.map (·.1) := by
    rw [← h.ks, ← z]
    exact List.mem_map.mpr ⟨e, m, rfl⟩
  obtain ⟨r, m2, e2⟩ := List.mem_map.mp this
  exact hn r m2 e2
end My
namespace My
open PySem L2 SX
open C8 (pss_cut tCut cutS_slice pe_gc)
theorem sqt_keep {K : PySem.W.Frag} {H H' : Hp} {p r : Addr} {xs ys : List V} (hk : Keep p H H') (hp : H p = some (.lst ys)) (h : SqT K H r xs) : SqT K H' r xs := by
  rcases h with (h | ⟨ob, h⟩) | h
  · exact .inl (.inl (hk _ _ h fun z => by rw [z, hp] at h; cases h))
  · exact .inl (.inr ⟨ob, hk _ _ h fun z => by rw [z, hp] at h; cases h⟩)
  · exact .inr h
variable {P : Program} {w : World} {K : PySem.W.Frag} {mg : Str → Option Value} {base : Heap}
def StL (K : PySem.W.Frag) (H : Hp) (a p : Addr) (ns : List Int) : Prop := ∃ x k : Int, H p = some (.lst [.int x, .int k, .ref a]) ∧ 0 ≤ k ∧ SqL K H a (ns.map V.int)
theorem sql_keep {H H' : Hp} {a p : Addr} {x k : Int} {ns : List Int} (hk : Keep p H H') (hp : H p = some (.lst [.int x, .int k, .ref a])) (h : SqL K H a (ns.map V.int)) : SqL K H' a (ns.map V.int) := by
  rcases h with (h | ⟨ob, h⟩) | h
  · refine .inl (.inl (hk _ _ h fun z => ?_))
    rw [z, hp] at h
    have := Option.some.inj h
    injection this with e
    match ns, e with
    | [], e => cases e
    | [_], e => simp at e
    | [_, _], e => simp at e
    | _ :: _ :: _ :: _, e => simp at e
  · refine .inl (.inr ⟨ob, hk _ _ h fun z => ?_⟩)
    rw [z, hp] at h
    cases h
  · exact .inr h
theorem StL.same {H H' : Hp} {a p : Addr} {ns : List Int} (s : Same H H') (h : StL K H a p ns) : StL K H' a p ns := by
  obtain ⟨x, k, h1, h2, h3⟩ := h
  exact ⟨x, k, s _ _ h1, h2, s.seq h3⟩
abbrev sCell : Stmt := top 21
theorem scCell : FnScope ["script", "k"] ["script", "k"] (defScope sCell) := ⟨rfl, rfl, rfl, by decide +kernel, rfl, by decide +kernel, by decide +kernel⟩
def spCell (K : PySem.W.Frag) : Sp := fun vs H Q _ => ∃ (a : Addr) (ns : List Int) (k : Int), vs = [.ref a, .int k] ∧ SqL K H a (ns.map V.int) ∧ 0 ≤ k ∧ ∀ c : Int, Q (.int c) H
theorem ok_cell {f : Addr} {fd : FuncData} (F : Fun K "_law_cell" "_law_cell" sCell f fd) (B : Bl mg) : FnOk P w K mg base CX0 1 f fd ["script", "k"] (spCell K) := by
  refine F.ok scCell (fun vs H Q E h => ?_) (fun cdv A outer s H vs Q E hr h => ?_)
  · obtain ⟨a, ns, k, rfl, _⟩ := h
    rfl
  · obtain ⟨a, ns, k, rfl, hS, h0, q⟩ := h
    refine ⟨_, pss_cons (ps_if (pt_cmpR op_lt (pv 1) (pe_callB call_len_seq (by rfl) B.len PySem.boot_len (pa_cons (pv 0) pa_nil)) (nomark _))
        (pss_one (ps_ret (pe_ix ix_list (pv 0) (pv 1) (fun _ _ => rfl))))
        pss_nil)
      (pss_one (ps_ret pe_int)), ?_⟩
    refine ⟨_, rfl, _, rfl, a, _, rfl, .inl hS, _, _, rfl, rfl, _, rfl, ite2 (fun e => ?_) (fun e => q 0)⟩
    have e1 : k < ((ns.map V.int).length : Nat) := of_decide_eq_true e
    obtain ⟨j, rfl⟩ : ∃ j : Nat, k = (j : Int) := ⟨k.toNat, by omega⟩
    have hj : j < ns.length := by
      rw [List.length_map] at e1
      omega
    refine ⟨_, rfl, _, rfl, a, _, _, V.int ns[j], rfl, rfl, hS, atI_nat ?_, q _⟩
    rw [List.getElem?_map, List.getElem?_eq_getElem hj]
    rfl
abbrev sBegin : Stmt := top 22
theorem scBegin : FnScope ["script", "k"] ["script", "k"] (defScope sBegin) := ⟨rfl, rfl, rfl, by decide +kernel, rfl, by decide +kernel, by decide +kernel⟩
def spBegin (K : PySem.W.Frag) : Sp := fun vs H Q _ => ∃ (a : Addr) (ns : List Int) (k : Int), vs = [.ref a, .int k] ∧ SqL K H a (ns.map V.int) ∧ 0 ≤ k ∧ ∀ H' p, H p = none → Same H H' → StL K H' a p ns → Q (.ref p) H'
theorem ok_begin {f : Addr} {fd : FuncData} (F : Fun K "_law_begin" "_law_begin" sBegin f fd) : FnOk P w K mg base CX0 1 f fd ["script", "k"] (spBegin K) := by
  refine F.ok scBegin (fun vs H Q E h => ?_) (fun cdv A outer s H vs Q E hr h => ?_)
  · obtain ⟨a, ns, k, rfl, _⟩ := h
    rfl
  · obtain ⟨a, ns, k, rfl, hS, h0, q⟩ := h
    refine ⟨_, pss_one (ps_ret (pe_lst (pa_cons pe_int (pa_cons (pv 1) (pa_cons (pv 0) pa_nil))))), ?_⟩
    refine ⟨_, rfl, _, rfl, (by show 3 ≤ sizeLine; decide), fun p hp => q _ p hp (same_upd hp) ⟨0, k, upd_same, h0, (same_upd hp).seq hS⟩⟩
abbrev sDraw : Stmt := top 23
theorem scDraw : FnScope ["state", "many", "k", "cell", "prime", "mixed", "digit"] ["state", "many"] (defScope sDraw) := ⟨rfl, rfl, rfl, by decide +kernel, rfl, by decide +kernel, by decide +kernel⟩
def spDraw (K : PySem.W.Frag) : Sp := fun vs H Q _ => ∃ (a p : Addr) (ns : List Int) (many : Int), vs = [.ref p, .int many] ∧ StL K H a p ns ∧ 0 < many ∧ many.natAbs < 2 ^ 80 ∧ ∀ H' (r : Int), Keep p H H' → StL K H' a p ns → 0 ≤ r → r < many → Q (.int r) H'
theorem ok_draw {f fC : Addr} {fd gC : FuncData} (F : Fun K "_law_draw" "_law_draw" sDraw f fd) (B : Bl mg) (FC : Fun K "_law_cell" "_law_cell" sCell fC gC) (bC : Binds K gC ["script", "k"] []) (mC : mg "_law_cell" = some (.ref fC)) : FnOk P w K mg base CX0 2 f fd ["state", "many"] (spDraw K) := by
  have GC : FnOk P w K mg base CX0 1 fC gC ["script", "k"] (spCell K) := ok_cell FC B
  refine F.ok scDraw (fun vs H Q E h => ?_) (fun cdv A outer s H vs Q E hr h => ?_)
  · obtain ⟨a, p, ns, many, rfl, _⟩ := h
    rfl
  · obtain ⟨a, p, ns, many, rfl, ⟨x, k, hp, hk, hS⟩, h0, h1, q⟩ := h
    refine ⟨_, pss_cut (ps_if (pt_cmpR op_lt (pe_ix ix_list (pv 0) pe_int (fun _ _ => rfl)) (pv 1) (nomark _))
        (pss_cons (ps_set (i := 2) scDraw.nd rfl (.inl rfl) (pe_ix ix_list (pv 0) pe_int (fun _ _ => rfl)))
        (pss_cons (ps_set (i := 3) scDraw.nd rfl (.inl rfl) (pe_call GC hr (by rfl) mC FC.kp bC .nil pass0 (pa_cons (pe_ix ix_list (pv 0) pe_int (fun _ _ => rfl)) (pa_cons (pv 2) pa_nil))))
        (pss_cons (ps_set (i := 4) scDraw.nd rfl (.inl rfl) pe_int)
        (pss_cons (ps_asg (pe_op op_add (pv 2) pe_int) (pg_sub (pv 0) pe_int set_list))
        (pss_cons (ps_asg (pe_callB call_abs (by rfl) B.abs (by decide +kernel) (pa_cons (pv 3) pa_nil)) (pg_sub (pv 0) pe_int set_list))
        (pss_one (ps_if (pt_chain op_lt op_lt (pe_un un_neg pe_int) (pv 3) pe_int)
          (pss_cons (ps_set (i := 5) scDraw.nd rfl (.inl rfl) (pe_op op_mod (pe_callTy call_int1 (by rfl) B.int (by decide +kernel) (pa_cons (pe_op op_add (pe_op op_mul (pv 3) pe_int) (pe_op op_mul (pe_op op_add (pv 2) pe_int) pe_int)) pa_nil)) (pv 4)))
          (pss_one (ps_asg (pe_op op_add (pe_op op_mod (pe_callTy call_int1 (by rfl) B.int (by decide +kernel) (pa_cons (pe_op op_add (pe_op op_add (pe_op op_mulW (pv 5) (pv 5)) (pe_op op_mul pe_int (pv 5))) (pv 2)) pa_nil)) (pv 4)) (pv 4)) (pg_sub (pv 0) pe_int set_list))))
          pss_nil)))))))
        pss_nil)
      (pss_cons (ps_set (i := 6) scDraw.nd rfl (.inl rfl) (pe_op op_mod (pe_callTy call_int1 (by rfl) B.int (by decide +kernel) (pa_cons (pe_ix ix_list (pv 0) pe_int (fun _ _ => rfl)) pa_nil)) (pv 1)))
      (pss_cons (ps_asg (pe_op op_fdivW (pe_ix ix_list (pv 0) pe_int (fun _ _ => rfl)) (pv 1)) (pg_sub (pv 0) pe_int set_list))
      (pss_one (ps_ret (pv 6))))), ?_⟩
    let M : List (Option V) → Hp → Prop := fun σ' H' => ∃ (y2 y3 y4 y5 : Option V) (x k : Int), σ' = [some (.ref p), some (.int many), y2, y3, y4, y5, none] ∧ Keep p H H' ∧ H' p = some (.lst [.int x, .int k, .ref a]) ∧ 0 ≤ k
    refine ⟨M, ⟨_, rfl, p, _, _, _, rfl, rfl, SqL.of hp, rfl, _, rfl, _, _, rfl, rfl, _, rfl, ite2 (fun e => ?_) (fun e => ⟨none, none, none, none, x, k, rfl, fun _ _ e _ => e, hp, hk⟩)⟩, ?_⟩
    · refine ⟨_, rfl, p, _, _, _, rfl, rfl, SqL.of hp, rfl, ?_⟩
      refine ⟨_, rfl, p, _, _, _, rfl, rfl, SqL.of hp, rfl, _, rfl, a, ns, k, rfl, hS, hk, fun cell => ?_⟩
      refine ⟨_, rfl, _, _, rfl, rfl, _, rfl, p, _, _, _, rfl, rfl, hp, rfl, ?_⟩
      refine ⟨_, rfl, _, rfl, _, rfl, p, _, _, _, rfl, rfl, upd_same, rfl, ?_⟩
      have fin : ∀ (z z' : Int) (Hx : Hp), Keep p H Hx → Keep p H (upd Hx p (.lst [.int z, .int z', .ref a])) := fun z z' Hx kx b o e n => by
        rw [upd_ne n]
        exact kx b o e n
      have k0 : Keep p H H := fun _ _ e _ => e
      have kA := fin x (k + 1) H k0
      have kB := fin (if cell < 0 then -cell else cell) (k + 1) _ kA
      have eB : upd (upd H p (.lst [.int x, .int (k + 1), .ref a])) p (.lst [.int (if cell < 0 then -cell else cell), .int (k + 1), .ref a]) p = some (.lst [.int (if cell < 0 then -cell else cell), .int (k + 1), .ref a]) := upd_same
      have done : ∀ (y5 : Option V) (z : Int) (Hx : Hp), Keep p H Hx → Hx p = some (.lst [.int z, .int (k + 1), .ref a]) → M [some (.ref p), some (.int many), some (.int k), some (.int cell), some (.int 618970019642690137449562111), y5, none] Hx := fun y5 z Hx k1 e1 => ⟨_, _, _, _, z, k + 1, rfl, k1, e1, by omega⟩
      refine ⟨_, rfl, _, rfl, _, _, rfl, rfl, _, rfl, ite2 (fun e1 => ⟨_, _, rfl, rfl, _, rfl, ite2 (fun e2 => ?_) (fun _ => done none _ _ kB eB)⟩) (fun _ => ⟨_, rfl, iteF (done none _ _ kB eB)⟩)⟩
      refine ⟨_, rfl, _, _, rfl, rfl, .inr ⟨by decide, by decide⟩, _, rfl, _, _, rfl, rfl, _, _, rfl, rfl, .inr ⟨by decide, by decide⟩, _, _, rfl, rfl, .inl ⟨_, rfl, _, rfl, _, _, rfl, rfl, (by show (0 : Int) < 618970019642690137449562111; decide), ?_⟩⟩
      dsimp only
      have m0 : 0 ≤ (cell * 2654435761 + (k + 1) * 6700417) % 618970019642690137449562111 := Int.emod_nonneg _ (by decide)
      have m1 : (cell * 2654435761 + (k + 1) * 6700417) % 618970019642690137449562111 < 618970019642690137449562111 := Int.emod_lt_of_pos _ (by decide)
      generalize (cell * 2654435761 + (k + 1) * 6700417) % 618970019642690137449562111 = mx at m0 m1 ⊢
      have mb : mx.natAbs < 2 ^ 90 := by
        have : (2 : Nat) ^ 90 = 1237940039285380274899124224 := by decide
        omega
      refine ⟨_, rfl, _, rfl, _, _, rfl, rfl, wide_mul mb mb (by decide) (by decide) (by decide), _, rfl, _, _, rfl, rfl, .inl ⟨by decide, by decide⟩, _, _, rfl, rfl, _, rfl, _, _, rfl, rfl, .inl ⟨_, rfl, _, rfl, _, _, rfl, rfl, (by show (0 : Int) < 618970019642690137449562111; decide), _, rfl, _, _, rfl, rfl, _, rfl, p, _, _, _, rfl, rfl, eB, rfl, ?_⟩⟩
      exact done _ _ _ (fin _ _ _ kB) upd_same
    rintro σ' H' ⟨y2, y3, y4, y5, x', k', rfl, k1, hp', hk'⟩
    refine ⟨_, rfl, p, _, _, _, rfl, rfl, SqL.of hp', rfl, .inl ⟨_, rfl, _, rfl, _, _, rfl, rfl, h0, ?_⟩⟩
    refine ⟨_, rfl, p, _, _, _, rfl, rfl, SqL.of hp', rfl, _, rfl, _, _, rfl, rfl, wide_div h0 h1 (by decide) (by decide), _, rfl, p, _, _, _, rfl, rfl, hp', rfl, ?_⟩
    have k2 : Keep p H (upd H' p (.lst [.int (x' / many), .int k', .ref a])) := fun b o e n => by
      rw [upd_ne n]
      exact k1 b o e n
    exact ⟨_, rfl, q _ _ k2 ⟨_, k', upd_same, hk', sql_keep k2 hp hS⟩ (Int.emod_nonneg _ (by omega)) (Int.emod_lt_of_pos _ h0)⟩
section
variable {P : Program} {w : World} {K : PySem.W.Frag} {mg : Str → Option Value} {base : Heap}
abbrev sPick : Stmt := top 24
theorem scPick : FnScope ["state", "row"] ["state", "row"] (defScope sPick) := ⟨rfl, rfl, rfl, by decide +kernel, rfl, by decide +kernel, by decide +kernel⟩
def spPick (K : PySem.W.Frag) : Sp := fun vs H Q _ => ∃ (a p r : Addr) (ns : List Int) (xs : List V), vs = [.ref p, .ref r] ∧ StL K H a p ns ∧ SqT K H r xs ∧ 0 < xs.length ∧ xs.length ≤ 100 ∧ ∀ H' v, v ∈ xs → Keep p H H' → StL K H' a p ns → Q v H'
theorem ok_pick {f fC fD : Addr} {fd gC gD : FuncData} (F : Fun K "_law_pick" "_law_pick" sPick f fd) (B : Bl mg) (FC : Fun K "_law_cell" "_law_cell" sCell fC gC) (bC : Binds K gC ["script", "k"] []) (mC : mg "_law_cell" = some (.ref fC))
    (FD : Fun K "_law_draw" "_law_draw" sDraw fD gD) (bD : Binds K gD ["state", "many"] []) (mD : mg "_law_draw" = some (.ref fD)) : FnOk P w K mg base CX0 3 f fd ["state", "row"] (spPick K) := by
  have GD : FnOk P w K mg base CX0 2 fD gD ["state", "many"] (spDraw K) := ok_draw FD B FC bC mC
  refine F.ok scPick (fun vs H Q E h => ?_) (fun cdv A outer s H vs Q E hr h => ?_)
  · obtain ⟨a, p, r, ns, xs, rfl, _⟩ := h
    rfl
  · obtain ⟨a, p, r, ns, xs, rfl, hst, ht, h0, h1, q⟩ := h
    refine ⟨_, pss_one (ps_ret (pe_ix ix_tup (pv 1) (pe_call GD hr (by rfl) mD FD.kp bD .nil pass0 (pa_cons (pv 0) (pa_cons (pe_callB call_len_seq (by rfl) B.len PySem.boot_len (pa_cons (pv 1) pa_nil)) pa_nil))) (fun _ _ => rfl))), ?_⟩
    refine ⟨_, rfl, _, rfl, _, rfl, r, _, rfl, .inr ht, a, p, ns, _, rfl, hst, by omega, by omega, fun H' i k1 st i0 i1 => ?_⟩
    obtain ⟨j, rfl⟩ : ∃ j : Nat, i = (j : Int) := ⟨i.toNat, by omega⟩
    have hj : j < xs.length := by omega
    obtain ⟨x, k, hp, _⟩ := hst
    exact ⟨r, xs, _, xs[j], rfl, rfl, sqt_keep k1 hp ht, atI_nat (List.getElem?_eq_getElem hj), q H' _ (List.getElem_mem hj) k1 st⟩
end
end My
namespace My
open PySem L2 SX XT
open C8 (pss_cut tCut cutS_slice pe_gc)
section
variable {P : Program} {w : World} {K : PySem.W.Frag} {mg : Str → Option Value} {base : Heap} {lS : Addr} {hS : FuncData}
abbrev sLAt : Stmt := top 26
theorem scLAt : FnScope ["rows", "key", "k"] ["rows", "key"] (defScope sLAt) := ⟨rfl, rfl, rfl, by decide +kernel, rfl, by decide +kernel, by decide +kernel⟩
def spLAt : Sp := fun vs H Q _ => ∃ (R : Addr) (key : V) (ws : List V) (rs : List Rw), vs = [.ref R, key] ∧ H R = some (.lst ws) ∧ RwsAt H ws rs ∧ keyOk key = true ∧ rs.length ≤ 1000 ∧ (∀ (i : Nat) r, rs[i]? = some r → r.1 = key → Q (.int (i : Nat)) H) ∧ ((∀ r ∈ rs, r.1 ≠ key) → Q (.int (-1)) H)
theorem ok_lat {f : Addr} {fd : FuncData} (F : Fun K "_law_at" "_law_at" sLAt f fd) (B : Bl mg) (FS : Fun K "_law_same" "_law_same" sLSame lS hS) (bS : Binds K hS ["x", "y"] []) (gS : mg "_law_same" = some (.ref lS)) : FnOk P w K mg base CX0 2 f fd ["rows", "key"] spLAt := by
  have GS : FnOk P w K mg base CX0 1 lS hS ["x", "y"] spLSame := ok_lsame FS B
  refine F.ok scLAt (fun vs H Q E h => ?_) (fun cdv A outer s H vs Q E hr h => ?_)
  · obtain ⟨R, key, ws, rs, rfl, _⟩ := h
    rfl
  · obtain ⟨R, key, ws, rs, rfl, hR, hw, hk, hl, q1, q2⟩ := h
    have nd := scLAt.nd
    refine ⟨_, pss_cons (ps_for PassesOwn.never rfl (pi_range1 (by rfl) B.range (pa_cons (pe_callB call_len_seq (by rfl) B.len PySem.boot_len (pa_cons (pv 0) pa_nil)) pa_nil)) (pg_name (i := 2) nd rfl (.inl rfl))
        (pss_one (ps_if (pt_val (pe_call GS hr (by rfl) gS FS.kp bS .nil pass0 (pa_cons (pe_ix ix_tup (pe_ix ix_list (pv 0) (pv 2) (fun _ _ => rfl)) pe_int (fun _ _ => rfl)) (pa_cons (pv 1) pa_nil)))) (pss_one (ps_ret (pv 2))) pss_nil)))
      (pss_one (ps_ret (pe_un un_neg pe_int))), ?_⟩
    have hwl := hw.len
    refine ⟨_, rfl, R, _, rfl, .inl (SqL.of hR), _, rfl, by omega, by omega, for_range (fun i σ H' => ∃ y2 : Option V, σ = [some (.ref R), some key, y2] ∧ H' = H ∧ ∀ j r, j < i → rs[j]? = some r → r.1 ≠ key) ⟨none, rfl, rfl, fun j r h => absurd h (by omega)⟩ ?_ ?_⟩
    · rintro i σ H1 hi ⟨y2, rfl, rfl, hn⟩
      rw [Int.zero_add]
      have hi' : i < rs.length := by omega
      obtain ⟨r, hr'⟩ : ∃ r, rs[i]? = some r := ⟨_, List.getElem?_eq_getElem hi'⟩
      obtain ⟨q, e1, e2, e3, e4⟩ := hw.get hr'
      refine ⟨_, rfl, _, rfl, R, _, _, _, rfl, rfl, SqL.of hR, atI_nat e1, q, _, _, _, rfl, rfl, .inl (.inl e2), rfl, _, rfl, r.1, key, rfl, e3, hk, _, rfl, ?_⟩
      by_cases c : r.1 = key
      · exact ifT (decide_eq_true c) ⟨_, rfl, q1 i r hr' c⟩
      · refine ifF (decide_eq_false c) ⟨_, rfl, rfl, fun j r' hj hj' => ?_⟩
        by_cases hji : j < i
        · exact hn j r' hji hj'
        · obtain rfl : j = i := by omega
          rw [hr'] at hj'
          cases hj'
          exact c
    · rintro σ H1 ⟨y2, rfl, rfl, hn⟩
      refine ⟨1, rfl, q2 fun r m => ?_⟩
      obtain ⟨j, hj, e⟩ := List.getElem_of_mem m
      exact hn j r (by omega) (by rw [List.getElem?_eq_getElem hj, e])
end
end My
namespace My
open PySem L2 SX XT
open C8 (pss_cut tCut cutS_slice pe_gc)
theorem op_notTrue {X : Cx} : OpR X (compareOp .IsNot) (fun x y H Q => x = .bl true ∧ y = .bl true ∧ Q (.bl false) H) := by
  intro pins s σ H x y v u Q I rx ry h
  obtain ⟨rfl, rfl, q⟩ := h
  cases (show u = Value.bool true from ry)
  cases (show v = Value.bool true from rx)
  exact wpAny_isNot_self rfl ⟨.bl false, H, I, rfl, q⟩
theorem Same.put {H H' : Hp} {p : Addr} {o : HO} (s : Same H H') (h : H p = none) : Same H (upd H' p o) := fun b x e => by
  rw [upd_ne (ne_of_none e h)]
  exact s _ _ e
theorem kit_list_list {K : PySem.W.Frag} : PySem.W.kitOne K (.type "list") (.type "list") = some true := kit_ty (show kitB "list" "list" = some true by decide +kernel)
theorem kit_tup_tup {K : PySem.W.Frag} : PySem.W.kitOne K (.type "tuple") (.type "tuple") = some true := kit_ty (show kitB "tuple" "tuple" = some true by decide +kernel)
/-- the table's methods, where they stand -/
structure Ta (K : PySem.W.Frag) (mg : Str → Option Value) (cT kT fH fV fP fT fA pM fM : Addr) (uT gH gV gP gT gA gM : FuncData) : Prop where
  C : Tc K cT
  M : Tm K mg kT uT
  mH : Meth K cT "has" fH
  FH : Fun K "has" "Table.has" sTHas fH gH
  bH : Binds K gH ["self", "key"] []
  mV : Meth K cT "value_of" fV
  FV : Fun K "value_of" "Table.value_of" sTValue fV gV
  bV : Binds K gV ["self", "key"] []
  mP : Meth K cT "put" fP
  FP : Fun K "put" "Table.put" sTPut fP gP
  bP : Binds K gP ["self", "key", "value"] []
  mT : Meth K cT "take_out" fT
  FT : Fun K "take_out" "Table.take_out" sTTake fT gT
  bT : Binds K gT ["self", "key"] []
  mA : Meth K cT "pairs" fA
  FA : Fun K "pairs" "Table.pairs" sTPairs fA gA
  bA : Binds K gA ["self"] []
  pr : PropOf K cT "many" pM fM
  FM : Fun K "many" "Table.many" sTMany fM gM
  bM : Binds K gM ["self"] []
theorem tab_none {d : Addr} {n : Str} (h : (n == ("_entries" : Str)) = false) : (tabF d).lookup n = none := by
  simp [tabF, List.lookup, h]
section
variable {P : Program} {w : World} {K : PySem.W.Frag} {mg : Str → Option Value} {base : Heap} {cT kT fH fV fP fT fA pM fM lS : Addr} {uT gH gV gP gT gA gM hS : FuncData}
abbrev sLEq : Stmt := top 27
theorem scLEq : FnScope ["table", "rows", "told", "k"] ["table", "rows"] (defScope sLEq) := ⟨rfl, rfl, rfl, by decide +kernel, rfl, by decide +kernel, by decide +kernel⟩
def spLEq (P : Program) (w : World) (cT : Addr) : Sp := fun vs H Q _ => ∃ (t d R : Addr) (es : List Ent) (ws : List V) (rs : List Rw), vs = [.ref t, .ref R] ∧ TblAt P w cT H t d es ∧ Eq2 H es rs ∧ H R = some (.lst ws) ∧ RwsAt H ws rs ∧ rs.length ≤ 1000 ∧ ∀ H', Same H H' → Q (.bl true) H'
theorem ok_leq {f : Addr} {fd : FuncData} (F : Fun K "_law_equal" "_law_equal" sLEq f fd) (B : Bl mg) (bt : mg "tuple" = none) (T : Ta K mg cT kT fH fV fP fT fA pM fM uT gH gV gP gT gA gM) (FS : Fun K "_law_same" "_law_same" sLSame lS hS) (bS : Binds K hS ["x", "y"] []) (gS : mg "_law_same" = some (.ref lS)) :
    FnOk P w K mg base CX0 3 f fd ["table", "rows"] (spLEq P w cT) := by
  have GS : FnOk P w K mg base CX0 1 lS hS ["x", "y"] spLSame := ok_lsame FS B
  have GH : FnOk P w K mg base CX0 2 fH gH ["self", "key"] (spTHas P w cT) := ok_THas T.FH B T.C T.M
  have GV : FnOk P w K mg base CX0 2 fV gV ["self", "key"] (spTValue P w cT) := ok_TValue T.FV B T.C T.M
  have GA : FnOk P w K mg base CX0 1 fA gA ["self"] (spTPairs P w cT) := ok_TPairs T.FA B T.C
  have GM : FnOk P w K mg base CX0 1 fM gM ["self"] (spTMany P w cT) := ok_TMany T.FM B T.C
  refine F.ok scLEq (fun vs H Q E h => ?_) (fun cdv A outer s H vs Q E hr h => ?_)
  · obtain ⟨t, d, R, es, ws, rs, rfl, _⟩ := h
    rfl
  · obtain ⟨t, d, R, es, ws, rs, rfl, hT, hE, hR, hw, hl, q⟩ := h
    have nd := scLEq.nd
    have h1 : Room 1 _ := hr.mono (by decide)
    refine ⟨_, pss_cons (ps_set (i := 2) nd rfl (.inl rfl) (pe_meth0 (pv 0) T.C.cl T.mA GA h1 T.bA .nil pass0))
      (pss_cons (ps_if (PW.pt (pw_or (pt_not (pt_val (pe_callB call_isi (by rfl) B.isinstance (by decide +kernel) (pa_cons (pv 2) (pa_cons (pe_bltn (v := .ty "list") (by rfl) B.list (by decide +kernel) rfl) pa_nil))))) (pw_or (pt_cmpR op_ne (pe_callB call_len_seq (by rfl) B.len PySem.boot_len (pa_cons (pv 2) pa_nil)) (pe_callB call_len_seq (by rfl) B.len PySem.boot_len (pa_cons (pv 1) pa_nil)) (nomark _))
        (pw_or1 (pt_cmpR op_ne (pe_prop (pv 0) T.C.cl T.pr GM hr T.bM .nil pass0 rfl) (pe_callB call_len_seq (by rfl) B.len PySem.boot_len (pa_cons (pv 1) pa_nil)) (nomark _)))))) (pss_one (ps_ret pe_bl)) pss_nil)
      (pss_cons (ps_for PassesOwn.never rfl (pi_range1 (by rfl) B.range (pa_cons (pe_callB call_len_seq (by rfl) B.len PySem.boot_len (pa_cons (pv 1) pa_nil)) pa_nil)) (pg_name (i := 3) nd rfl (.inl rfl))
        (pss_cons (ps_if (PW.pt (pw_or (pt_not (pt_val (pe_callB call_isi (by rfl) B.isinstance (by decide +kernel) (pa_cons (pe_ix ix_list (pv 2) (pv 3) (fun _ _ => rfl)) (pa_cons (pe_bltn (v := .ty "tuple") (by rfl) bt (by decide +kernel) rfl) pa_nil)))))
          (pw_or (pt_not (pt_val (pe_call GS h1 (by rfl) gS FS.kp bS .nil pass0 (pa_cons (pe_ix ix_tup (pe_ix ix_list (pv 2) (pv 3) (fun _ _ => rfl)) pe_int (fun _ _ => rfl)) (pa_cons (pe_ix ix_tup (pe_ix ix_list (pv 1) (pv 3) (fun _ _ => rfl)) pe_int (fun _ _ => rfl)) pa_nil)))))
          (pw_or1 (pt_not (pt_val (pe_call GS h1 (by rfl) gS FS.kp bS .nil pass0 (pa_cons (pe_ix ix_tup (pe_ix ix_list (pv 2) (pv 3) (fun _ _ => rfl)) pe_int (fun _ _ => rfl)) (pa_cons (pe_ix ix_tup (pe_ix ix_list (pv 1) (pv 3) (fun _ _ => rfl)) pe_int (fun _ _ => rfl)) pa_nil))))))))) (pss_one (ps_ret pe_bl)) pss_nil)
        (pss_one (ps_if (PW.pt (pw_or (pt_cmpR op_notTrue (pe_meth (pv 0) T.C.cl T.mH GH hr T.bH .nil pass0 (pa_cons (pe_ix ix_tup (pe_ix ix_list (pv 1) (pv 3) (fun _ _ => rfl)) pe_int (fun _ _ => rfl)) pa_nil)) pe_bl (nomark _))
          (pw_or1 (pt_not (pt_val (pe_call GS h1 (by rfl) gS FS.kp bS .nil pass0 (pa_cons (pe_meth (pv 0) T.C.cl T.mV GV hr T.bV .nil pass0 (pa_cons (pe_ix ix_tup (pe_ix ix_list (pv 1) (pv 3) (fun _ _ => rfl)) pe_int (fun _ _ => rfl)) pa_nil)) (pa_cons (pe_ix ix_tup (pe_ix ix_list (pv 1) (pv 3) (fun _ _ => rfl)) pe_int (fun _ _ => rfl)) pa_nil)))))))) (pss_one (ps_ret pe_bl)) pss_nil))))
      (pss_cons (ps_expr (pe_bm PySem.F.plainAttrs_list PySem.F.slot_list_append PySem.F.type_list_append mt_append (pv 2) (pa_cons pe_int pa_nil)))
      (pss_one (ps_ret pe_bl))))), ?_⟩
    have tabn : ∀ {n : Str}, (n == ("_entries" : Str)) = false → ∀ d, (tabF d).lookup n = none := fun h d => tab_none h
    obtain ⟨⟨dx, ht1⟩, _, _⟩ := id hT
    refine ⟨_, rfl, t, dx, _, rfl, ht1, tabn (by decide +kernel) d, t, d, es, rfl, hT, fun H1 L s1 nL hL => ?_⟩
    have hT1 := hT.same s1
    have hR1 := s1 _ _ hR
    have hwl := hw.len
    have hel := hE.len
    have hL0 : H L = none := nL
    have hLl : (es.map (·.2.2)).length = rs.length := by rw [List.length_map, hel]
    refine ⟨_, rfl, _, .ty "list", _, _, true, rfl, .ty _, .base (.lst hL), kit_list_list, _, rfl, iteF ?_⟩
    refine ⟨_, rfl, L, _, rfl, .inl (SqL.of hL), _, rfl, R, _, rfl, .inl (SqL.of hR1), rfl, _, rfl, ifF (by simp [hLl, hwl, hel]) ?_⟩
    refine ⟨_, rfl, t, dx, _, rfl, s1 _ _ ht1, t, d, es, rfl, hT1, _, rfl, R, _, rfl, .inl (SqL.of hR1), rfl, _, rfl, ifF (by simp [hwl, hel]) ?_⟩
    refine ⟨_, rfl, R, _, rfl, .inl (SqL.of hR1), _, rfl, by omega, by omega, for_range (fun i σ H' => ∃ y3 : Option V, σ = [some (.ref t), some (.ref R), some (.ref L), y3] ∧ Same H1 H') ⟨none, rfl, Same.refl _⟩ ?_ ?_⟩
    · rintro i σ H2 hi ⟨y3, rfl, s2⟩
      rw [Int.zero_add]
      have hi' : i < rs.length := by omega
      obtain ⟨r, hr'⟩ : ∃ r, rs[i]? = some r := ⟨_, List.getElem?_eq_getElem hi'⟩
      have s12 := s1.trans s2
      have tup : ∀ b xs, H b = some (.tup xs) → H2 b = some (.tup xs) := fun b xs e => s12 _ _ e
      obtain ⟨q1, e1, e2, e3, e4⟩ := (hE.rw_.imp tup).get hr'
      obtain ⟨q2, g1, g2, _, _⟩ := (hw.imp tup).get hr'
      have hL2 := s2 _ _ hL
      have hR2 := s2 _ _ hR1
      have hd : decide (r.1 = r.1) = true := decide_eq_true rfl
      have hd2 : decide (r.2 = r.2) = true := decide_eq_true rfl
      refine ⟨_, rfl, _, rfl, L, _, _, _, rfl, rfl, SqL.of hL2, atI_nat e1, _, .ty "tuple", _, _, true, rfl, .ty _, .base (.tup e2), kit_tup_tup, _, rfl, iteF ?_⟩
      refine ⟨_, rfl, _, rfl, L, _, _, _, rfl, rfl, SqL.of hL2, atI_nat e1, q1, _, _, _, rfl, rfl, .inl (.inl e2), rfl, _, rfl, _, rfl, R, _, _, _, rfl, rfl, SqL.of hR2, atI_nat g1, q2, _, _, _, rfl, rfl, .inl (.inl g2), rfl, r.1, r.1, rfl, e3, e3, _, rfl, ifF (by rw [hd]; rfl) ?_⟩
      refine ⟨_, rfl, _, rfl, L, _, _, _, rfl, rfl, SqL.of hL2, atI_nat e1, q1, _, _, _, rfl, rfl, .inl (.inl e2), atI_nat (j := 1) rfl, _, rfl, _, rfl, R, _, _, _, rfl, rfl, SqL.of hR2, atI_nat g1, q2, _, _, _, rfl, rfl, .inl (.inl g2), atI_nat (j := 1) rfl, r.2, r.2, rfl, e4, e4, _, rfl, ifF (by rw [hd2]; rfl) ?_⟩
      obtain ⟨en, qe, n1, n2, n3, n4, _, _⟩ := hE.at hr'
      have hv : valT es r.1 = some (.ref qe) := by rw [val_at hE.nd' n1 n2, n3]
      refine ⟨_, rfl, t, dx, _, rfl, s12 _ _ ht1, tabn (by decide +kernel) d, _, rfl, _, rfl, R, _, _, _, rfl, rfl, SqL.of hR2, atI_nat g1, q2, _, _, _, rfl, rfl, .inl (.inl g2), rfl, t, d, es, r.1, rfl, hT.same s12, e3, fun H3 s3 => ⟨by rw [hv]; rfl, rfl, _, rfl, iteF ?_⟩⟩
      have s13 := s12.trans s3
      refine ⟨_, rfl, t, dx, _, rfl, s13 _ _ ht1, tabn (by decide +kernel) d, _, rfl, _, rfl, R, _, _, _, rfl, rfl, SqL.of (s3 _ _ hR2), atI_nat g1, q2, _, _, _, rfl, rfl, .inl (.inl (s3 _ _ g2)), rfl, t, d, es, r.1, qe, r.2, rfl, hT.same s13, e3, hv, s13 _ _ n4, fun H4 s4 => ?_⟩
      refine ⟨_, rfl, _, rfl, R, _, _, _, rfl, rfl, SqL.of (s4 _ _ (s3 _ _ hR2)), atI_nat g1, q2, _, _, _, rfl, rfl, .inl (.inl (s4 _ _ (s3 _ _ g2))), atI_nat (j := 1) rfl, r.2, r.2, rfl, e4, e4, _, rfl, ifF (by rw [hd2]; rfl) ⟨_, rfl, s2.trans (s3.trans s4)⟩⟩
    · rintro σ H2 ⟨y3, rfl, s2⟩
      have hL2 := s2 _ _ hL
      exact ⟨_, rfl, .inl ⟨rfl, _, SqL.of hL2⟩, L, _, _, rfl, rfl, hL2, Nat.lt_of_le_of_lt (m := 1001) (by omega) (by decide), q _ (My.Same.put (s1.trans s2) hL0)⟩
end
end My
namespace My
open PySem L2 SX XT
open C8 (pss_cut tCut cutS_slice pe_gc)
theorem seq_nat {i n : Nat} (h : i < n) : seqIndex? (i : Int) n = some i := by
  unfold seqIndex?
  split <;> first | (simp; omega) | (simp_all; try omega)
theorem ixN_nat {i n : Nat} (h : i < n) : ixN n (i : Int) = some i := by
  unfold ixN
  split <;> first | (simp; omega) | (simp_all; try omega)
/-- the law's own things behind the beginning: H7 the heap where the state was made -/
structure Lw (P : Program) (w : World) (K : PySem.W.Frag) (cT a p t R : Addr) (ns : List Int) (H7 H : Hp) (d : Addr) (es : List Ent) (ws : List V) (rs : List Rw) : Prop where
  st7 : StL K H7 a p ns
  k : Keep p H7 H
  st : StL K H a p ns
  nR : H7 R = none
  nd : H7 d = none
  tb : TblAt P w cT H t d es
  eq : Eq2 H es rs
  hR : H R = some (.lst ws)
  rw_ : RwsAt H ws rs
  nRp : R ≠ p
theorem StL.ofK {K : PySem.W.Frag} {H7 H : Hp} {a p : Addr} {ns : List Int} {x k : Int} (st7 : StL K H7 a p ns) (kk : Keep p H7 H) (hp : H p = some (.lst [.int x, .int k, .ref a])) (h0 : 0 ≤ k) : StL K H a p ns := by
  obtain ⟨x7, k7, h7, _, hs⟩ := st7
  exact ⟨x, k, hp, h0, sql_keep kk h7 hs⟩
section
variable {P : Program} {w : World} {K : PySem.W.Frag} {cT a p t R d : Addr} {ns : List Int} {H7 H H' : Hp} {es : List Ent} {ws : List V} {rs : List Rw}
theorem Lw.p_ne {b : Addr} (L : Lw P w K cT a p t R ns H7 H d es ws rs) {o : HO} (h : H b = some o) (ho : ∀ xs, o ≠ .lst xs) : b ≠ p := fun z => by
  obtain ⟨x, k, hp, _, _⟩ := L.st
  rw [z, hp] at h
  exact ho _ (Option.some.inj h).symm
theorem Lw.tup (L : Lw P w K cT a p t R ns H7 H d es ws rs) (k : Keep p H H') : ∀ b xs, H b = some (.tup xs) → H' b = some (.tup xs) := fun b xs e => k _ _ e (L.p_ne e fun _ z => by cases z)
/-- a draw -/
theorem Lw.draw (L : Lw P w K cT a p t R ns H7 H d es ws rs) (k : Keep p H H') (st : StL K H' a p ns) : Lw P w K cT a p t R ns H7 H' d es ws rs := by
  have tu := L.tup k
  obtain ⟨⟨dx, h1⟩, h2, h3⟩ := L.tb
  refine ⟨L.st7, L.k.trans k, st, L.nR, L.nd, ⟨⟨dx, k _ _ h1 (L.p_ne h1 fun _ z => by cases z)⟩, ⟨k _ _ h2.at_ (L.p_ne h2.at_ fun _ z => by cases z), fun e he => ⟨(h2.keys e he).1, tu _ _ (h2.keys e he).2⟩, h2.len⟩, fun e he => ?_⟩, ⟨L.eq.rw_.imp tu, L.eq.ks, L.eq.nd⟩, k _ _ L.hR L.nRp, L.rw_.imp tu, L.nRp⟩
  obtain ⟨q, e1, v, e2⟩ := h3 e he
  exact ⟨q, e1, v, tu _ _ e2⟩
theorem Lw.same (L : Lw P w K cT a p t R ns H7 H d es ws rs) (s : Same H H') : Lw P w K cT a p t R ns H7 H' d es ws rs := L.draw (My.Same.keep s) (L.st.same s)
/-- the table changed -/
theorem Lw.tab (L : Lw P w K cT a p t R ns H7 H d es ws rs) (k : Keep d H H') {es' : List Ent} {rs' : List Rw} (T : TblAt P w cT H' t d es') (E : Eq2 H' es' rs') :
    Keep p H7 H' ∧ StL K H' a p ns ∧ H' R = some (.lst ws) ∧ (∀ b xs, H b = some (.tup xs) → H' b = some (.tup xs)) := by
  have hd := L.tb.tab.at_
  have ne : ∀ {b : Addr} {o : HO}, H b = some o → (∀ φ, o ≠ .ext φ) → b ≠ d := fun {b o} e ho z => by
    rw [z, hd] at e
    exact ho _ (Option.some.inj e).symm
  have kk : Keep p H7 H' := fun b o e n => by
    have h1 := L.k _ _ e n
    exact k _ _ h1 (ne_of_none e L.nd)
  obtain ⟨x, kx, hp, h0, _⟩ := L.st
  exact ⟨kk, L.st7.ofK kk (k _ _ hp (ne hp fun _ z => by cases z)) h0, k _ _ L.hR (ne L.hR fun _ z => by cases z), fun b xs e => k _ _ e (ne e fun _ z => by cases z)⟩
end
end My
namespace My
open PySem L2 SX XT
open C8 (pss_cut tCut cutS_slice pe_gc)
/-- where the draws stand -/
structure Lx (K : PySem.W.Frag) (mg : Str → Option Value) (lC lB lD lP : Addr) (hC hB hD hP : FuncData) : Prop where
  fC : Fun K "_law_cell" "_law_cell" sCell lC hC
  bC : Binds K hC ["script", "k"] []
  gC : mg "_law_cell" = some (.ref lC)
  fB : Fun K "_law_begin" "_law_begin" sBegin lB hB
  bB : Binds K hB ["script", "k"] []
  gB : mg "_law_begin" = some (.ref lB)
  fD : Fun K "_law_draw" "_law_draw" sDraw lD hD
  bD : Binds K hD ["state", "many"] []
  gD : mg "_law_draw" = some (.ref lD)
  fP : Fun K "_law_pick" "_law_pick" sPick lP hP
  bP : Binds K hP ["state", "row"] []
  gP : mg "_law_pick" = some (.ref lP)
theorem TblAt.updR {P : Program} {w : World} {cT : Addr} {H : Hp} {t d R : Addr} {es : List Ent} {ws : List V} {o : HO} (T : TblAt P w cT H t d es) (hR : H R = some (.lst ws)) : TblAt P w cT (upd H R o) t d es := by
  obtain ⟨⟨dx, h1⟩, h2, h3⟩ := T
  have ne : ∀ {b : Addr} {u : HO}, H b = some u → (∀ xs, u ≠ .lst xs) → b ≠ R := fun {b u} e ho z => by
    rw [z, hR] at e
    exact ho _ (Option.some.inj e).symm
  refine ⟨⟨dx, by rw [upd_ne (ne h1 fun _ z => by cases z)]; exact h1⟩, ⟨by rw [upd_ne (ne h2.at_ fun _ z => by cases z)]; exact h2.at_, fun e he => ⟨(h2.keys e he).1, by rw [upd_ne (ne (h2.keys e he).2 fun _ z => by cases z)]; exact (h2.keys e he).2⟩, h2.len⟩, fun e he => ?_⟩
  obtain ⟨q, e1, v, e2⟩ := h3 e he
  exact ⟨q, e1, v, by rw [upd_ne (ne e2 fun _ z => by cases z)]; exact e2⟩
theorem map_erase {α β : Type} {f : α → β} : ∀ {l : List α} {i : Nat}, (l.eraseIdx i).map f = (l.map f).eraseIdx i
  | [], _ => rfl
  | _ :: _, 0 => rfl
  | a :: l, i + 1 => congrArg (f a :: ·) map_erase
theorem map_set2 {α β : Type} {f : α → β} {x : α} : ∀ {l : List α} {i : Nat}, (l.set i x).map f = (l.map f).set i (f x)
  | [], _ => rfl
  | _ :: _, 0 => rfl
  | a :: l, i + 1 => congrArg (f a :: ·) map_set2
theorem set_self {α : Type} {x : α} : ∀ {l : List α} {i : Nat}, l[i]? = some x → l.set i x = l
  | [], _, h => by simp at h
  | _ :: _, 0, h => by simp at h; rw [h]; rfl
  | a :: l, i + 1, h => congrArg (a :: ·) (set_self (by simpa using h))
section
variable {P : Program} {w : World} {K : PySem.W.Frag} {mg : Str → Option Value} {base : Heap} {cT kT fH fV fP fT fA pM fM lS lA lC lB lD lP : Addr} {uT gH gV gP gT gA gM hS hA hC hB hD hP : FuncData}
abbrev sDeed : Stmt := top 28
theorem scDeed : FnScope ["state", "table", "rows", "key", "at", "value"] ["state", "table", "rows"] (defScope sDeed) := ⟨rfl, rfl, rfl, by decide +kernel, rfl, by decide +kernel, by decide +kernel⟩
def spDeed (P : Program) (w : World) (K : PySem.W.Frag) (cT : Addr) : Sp := fun vs H Q _ => ∃ (a p t R d : Addr) (ns : List Int) (H7 : Hp) (es : List Ent) (ws : List V) (rs : List Rw), vs = [.ref p, .ref t, .ref R] ∧ Lw P w K cT a p t R ns H7 H d es ws rs ∧ rs.length < 900 ∧
  ∀ H' es' ws' rs', Lw P w K cT a p t R ns H7 H' d es' ws' rs' → rs'.length ≤ rs.length + 1 → Q (.bl true) H'
theorem ok_deed {f : Addr} {fd : FuncData} (F : Fun K "_law_deed" "_law_deed" sDeed f fd) (B : Bl mg) (T : Ta K mg cT kT fH fV fP fT fA pM fM uT gH gV gP gT gA gM) (L : Lx K mg lC lB lD lP hC hB hD hP) (FS : Fun K "_law_same" "_law_same" sLSame lS hS) (bS : Binds K hS ["x", "y"] []) (gS : mg "_law_same" = some (.ref lS))
    (FA : Fun K "_law_at" "_law_at" sLAt lA hA) (bA : Binds K hA ["rows", "key"] []) (gA' : mg "_law_at" = some (.ref lA)) : FnOk P w K mg base CX0 4 f fd ["state", "table", "rows"] (spDeed P w K cT) := by
  have GD : FnOk P w K mg base CX0 2 lD hD ["state", "many"] (spDraw K) := ok_draw L.fD B L.fC L.bC L.gC
  have GP : FnOk P w K mg base CX0 3 lP hP ["state", "row"] (spPick K) := ok_pick L.fP B L.fC L.bC L.gC L.fD L.bD L.gD
  have GA : FnOk P w K mg base CX0 2 lA hA ["rows", "key"] spLAt := ok_lat FA B FS bS gS
  have GH : FnOk P w K mg base CX0 2 fH gH ["self", "key"] (spTHas P w cT) := ok_THas T.FH B T.C T.M
  have GT : FnOk P w K mg base CX0 2 fT gT ["self", "key"] (spTTake P w cT) := ok_TTake T.FT B T.C T.M
  have GU : FnOk P w K mg base CX0 2 fP gP ["self", "key", "value"] (spTPut P w cT) := ok_TPut T.FP B T.C T.M
  refine F.ok scDeed (fun vs H Q E h => ?_) (fun cdv A outer s H vs Q E hr h => ?_)
  · obtain ⟨a, p, t, R, d, ns, H7, es, ws, rs, rfl, _⟩ := h
    rfl
  · obtain ⟨a, p, t, R, d, ns, H7, es, ws, rs, rfl, W, hl, q⟩ := h
    have nd := scDeed.nd
    have h2 : Room 2 _ := hr.mono (by decide)
    refine ⟨_, pss_cons (ps_set (i := 3) nd rfl (.inl rfl) (pe_call GP hr (by rfl) L.gP L.fP.kp L.bP .nil pass0 (pa_cons (pv 0) (pa_cons (pe_tup (pa_cons pe_non (pa_cons pe_bl (pa_cons pe_bl (pa_cons pe_int (pa_cons pe_int (pa_cons pe_int (pa_cons pe_str (pa_cons pe_str (pa_cons pe_str (pa_cons pe_str pa_nil))))))))))) pa_nil))))
      (pss_cons (ps_set (i := 4) nd rfl (.inl rfl) (pe_call GA h2 (by rfl) gA' FA.kp bA .nil pass0 (pa_cons (pv 2) (pa_cons (pv 3) pa_nil))))
      (pss_cons (ps_if (PW.pt (pw_or (pt_not (pt_val (pe_callB call_isi (by rfl) B.isinstance (by decide +kernel) (pa_cons (pe_meth (pv 1) T.C.cl T.mH GH h2 T.bH .nil pass0 (pa_cons (pv 3) pa_nil)) (pa_cons (pe_bltn (v := .ty "bool") (by rfl) B.bool (by decide +kernel) rfl) pa_nil)))))
        (pw_or1 (pt_cmpR op_ne (pe_meth (pv 1) T.C.cl T.mH GH h2 T.bH .nil pass0 (pa_cons (pv 3) pa_nil)) (pe_cmpR op_ge (pv 4) pe_int (nomark _)) (nomark _))))) (pss_one (ps_ret pe_bl)) pss_nil)
      (pss_cut (ps_if (PW.pt (pw_and (pt_cmpR op_ge (pv 4) pe_int (nomark _)) (pw_and1 (pt_cmpR op_eq (pe_call GD h2 (by rfl) L.gD L.fD.kp L.bD .nil pass0 (pa_cons (pv 0) (pa_cons pe_int pa_nil))) pe_int (nomark _)))))
        (pss_cons (ps_if (pt_cmp (pc_notN (pe_meth (pv 1) T.C.cl T.mT GT h2 T.bT .nil pass0 (pa_cons (pv 3) pa_nil)))) (pss_one (ps_ret pe_bl)) pss_nil)
        (pss_cons (ps_expr (pe_bm PySem.F.plainAttrs_list PySem.F.slot_list_pop PySem.F.type_list_pop mt_popAt (pv 2) (pa_cons (pv 4) pa_nil)))
        (pss_one (ps_ret pe_bl)))) pss_nil)
      (pss_cons (ps_set (i := 5) nd rfl (.inl rfl) (pe_call GP hr (by rfl) L.gP L.fP.kp L.bP .nil pass0 (pa_cons (pv 0) (pa_cons (pe_tup (pa_cons pe_non (pa_cons pe_bl (pa_cons pe_int (pa_cons pe_str (pa_cons pe_int pa_nil)))))) pa_nil))))
      (pss_cons (ps_if (pt_cmp (pc_notN (pe_meth (pv 1) T.C.cl T.mP GU h2 T.bP .nil pass0 (pa_cons (pv 3) (pa_cons (pv 5) pa_nil))))) (pss_one (ps_ret pe_bl)) pss_nil)
      (pss_cut (ps_if (pt_cmpR op_lt (pv 4) pe_int (nomark _))
        (pss_one (ps_expr (pe_bm PySem.F.plainAttrs_list PySem.F.slot_list_append PySem.F.type_list_append mt_append (pv 2) (pa_cons (pe_tup (pa_cons (pv 3) (pa_cons (pv 5) pa_nil))) pa_nil))))
        (pss_one (ps_asg (pe_tup (pa_cons (pe_ix ix_tup (pe_ix ix_list (pv 2) (pv 4) (fun _ _ => rfl)) pe_int (fun _ _ => rfl)) (pa_cons (pv 5) pa_nil))) (pg_sub (pv 2) (pv 4) set_list))))
      (pss_one (ps_ret pe_bl)))))))), ?_⟩
    refine ⟨_, rfl, (by show 10 ≤ sizeLine; decide), fun T1 nT1 => ?_⟩
    have u1 := same_upd (o := .tup [.non, .bl true, .bl false, .int 0, .int 1, .int 2, .str "", .str "0", .str "1", .str "a"]) nT1
    refine ⟨a, p, T1, ns, _, rfl, W.st.same u1, .inl (.inl upd_same), (by show 0 < 10; decide), (by show 10 ≤ 100; decide), fun H1 key hkey k1 st1 => ?_⟩
    have hk : keyOk key = true := by
      simp only [List.mem_cons, List.not_mem_nil, or_false] at hkey
      rcases hkey with rfl | rfl | rfl | rfl | rfl | rfl | rfl | rfl | rfl | rfl <;> rfl
    have W1 := (W.same u1).draw k1 st1
    obtain ⟨⟨dx, ht1⟩, _, _⟩ := id W1.tb
    have tabn : ∀ {n : Str}, (n == ("_entries" : Str)) = false → ∀ d, (tabF d).lookup n = none := fun h d => tab_none h
    have hlen : rs.length ≤ 1000 := by omega
    by_cases hex : ∃ r ∈ rs, r.1 = key
    · obtain ⟨r0, m0, ek0⟩ := hex
      refine ⟨_, rfl, _, rfl, R, key, ws, rs, rfl, W1.hR, W1.rw_, hk, hlen, fun i r hi ek => ?_, fun hn => absurd ek0 (hn r0 m0)⟩
      obtain ⟨e0, q0, n1, n2, n3, n4, n5, n6⟩ := W1.eq.at hi
      have hsome : valT es key = some e0.2.2 := val_at W1.eq.nd' n1 (n2.trans ek)
      refine ⟨_, rfl, t, dx, _, rfl, ht1, tabn (by decide +kernel) d, _, rfl, t, d, es, key, rfl, W1.tb, hk, fun H2 s2 => ⟨_, .ty "bool", _, _, true, rfl, .ty _, .base (.bl _), kit_bool_bool, _, rfl, iteF ?_⟩⟩
      have W2 := W1.same s2
      refine ⟨_, rfl, t, dx, _, rfl, s2 _ _ ht1, tabn (by decide +kernel) d, _, rfl, t, d, es, key, rfl, W2.tb, hk, fun H3 s3 => ⟨_, rfl, _, _, rfl, rfl, rfl, _, rfl, ifF (by rw [hsome]; simp) ?_⟩⟩
      have W3 := W2.same s3
      let M : List (Option V) → Hp → Prop := fun σ' H' => σ' = [some (.ref p), some (.ref t), some (.ref R), some key, some (.int (i : Nat)), none] ∧ Lw P w K cT a p t R ns H7 H' d es ws rs
      refine ⟨M, ⟨_, rfl, _, _, rfl, rfl, _, rfl, ifT (by simp) ⟨_, rfl, a, p, ns, 3, rfl, W3.st, by decide, by decide, fun H4 x4 k4 st4 l4 u4 => ⟨rfl, _, rfl, ite2 (fun _ => ?_) (fun _ => ⟨rfl, W3.draw k4 st4⟩)⟩⟩⟩, ?_⟩
      · have W4 := W3.draw k4 st4
        obtain ⟨⟨dx4, ht4⟩, _, _⟩ := id W4.tb
        refine ⟨_, rfl, t, dx4, _, rfl, ht4, tabn (by decide +kernel) d, _, rfl, t, d, es, key, rfl, W4.tb, hk, by rw [hsome]; rfl, fun H5 k5 T5 => ⟨_, rfl, ifF rfl ?_⟩⟩
        have hde : dropT es key = es.eraseIdx i := drop_erase W4.eq.nd' n1 (n2.trans ek)
        have hws : ws.length = rs.length := W4.rw_.len
        have hir : i < rs.length := (List.getElem?_eq_some_iff.mp hi).1
        have tu : ∀ b xs, H4 b = some (.tup xs) → H5 b = some (.tup xs) := fun b xs e => k5 _ _ e fun z => by
          rw [z, W4.tb.tab.at_] at e
          cases e
        have E5 : Eq2 H5 (dropT es key) (rs.eraseIdx i) := by
          rw [hde]
          refine ⟨by rw [map_erase]; exact (W4.eq.rw_.imp tu).erase i, by rw [map_erase, map_erase, W4.eq.ks], ?_⟩
          rw [map_erase]
          exact List.Nodup.sublist (List.eraseIdx_sublist _ _) W4.eq.nd
        obtain ⟨kk, st5, hR5, _⟩ := W4.tab k5 T5 E5
        obtain ⟨y, hy⟩ : ∃ y, ws[i]? = some y := ⟨_, List.getElem?_eq_getElem (by omega)⟩
        refine ⟨_, rfl, .inl ⟨rfl, _, SqL.of hR5⟩, _, rfl, R, ws, i, i, y, rfl, rfl, hR5, by omega, by omega, seq_nat (by omega), hy, ?_⟩
        have kR : Keep p H7 (upd H5 R (.lst (ws.eraseIdx i))) := fun b o e n => by
          rw [upd_ne (ne_of_none e W.nR)]
          exact kk b o e n
        have tuR : ∀ b xs, H5 b = some (.tup xs) → (upd H5 R (.lst (ws.eraseIdx i))) b = some (.tup xs) := fun b xs e => by
          rw [upd_ne fun z => by rw [z, hR5] at e; cases e]
          exact e
        refine q _ _ _ _ ⟨W.st7, kR, ?_, W.nR, W.nd, T5.updR hR5, ⟨E5.rw_.imp tuR, E5.ks, E5.nd⟩, upd_same, ((W4.rw_.imp tu).erase i).imp tuR, W.nRp⟩ (by have := List.length_eraseIdx_le rs i; omega)
        obtain ⟨x, kx, hp, h0, _⟩ := st5
        exact W.st7.ofK kR (by rw [upd_ne (Ne.symm W.nRp)]; exact hp) h0
      rintro σ' H4 ⟨rfl, W4⟩
      refine ⟨_, rfl, (by show 5 ≤ sizeLine; decide), fun T2 nT2 => ?_⟩
      have u2 := same_upd (o := .tup [.non, .bl true, .int 1, .str "x", .int 0]) nT2
      refine ⟨a, p, T2, ns, _, rfl, W4.st.same u2, .inl (.inl upd_same), (by show 0 < 5; decide), (by show 5 ≤ 100; decide), fun H5 v hv k5 st5 => ?_⟩
      have hkv : keyOk v = true := by
        simp only [List.mem_cons, List.not_mem_nil, or_false] at hv
        rcases hv with rfl | rfl | rfl | rfl | rfl <;> rfl
      have W5 := (W4.same u2).draw k5 st5
      obtain ⟨⟨dx5, ht5⟩, _, _⟩ := id W5.tb
      have hel := W5.eq.len
      refine ⟨_, rfl, t, dx5, _, rfl, ht5, tabn (by decide +kernel) d, _, rfl, _, rfl, t, d, es, key, v, rfl, W5.tb, hk, by omega, fun H6 b qn k6 T6 hqn nqn => ⟨_, rfl, ifF rfl ?_⟩⟩
      have hpe : putT es key b (.ref qn) = es.set i (e0.1, e0.2.1, .ref qn) := by
        unfold putT
        rw [hsome, if_pos (show (some e0.2.2).isSome = true from rfl), map_set W5.eq.nd' n1 (n2.trans ek)]
      have tu : ∀ b xs, H5 b = some (.tup xs) → H6 b = some (.tup xs) := fun b xs e => k6 _ _ e fun z => by
        rw [z, W5.tb.tab.at_] at e
        cases e
      have hnd : (rs.set i (r.1, v)).map (·.1) = rs.map (·.1) := by
        rw [map_set2]
        exact set_self (by rw [List.getElem?_map, hi]; rfl)
      have E6 : Eq2 H6 (putT es key b (.ref qn)) (rs.set i (r.1, v)) := by
        rw [hpe]
        refine ⟨?_, ?_, by rw [hnd]; exact W5.eq.nd⟩
        · rw [map_set2]
          exact RwsAt.set (r := (r.1, v)) (by rw [ek]; exact hqn) (by rw [ek]; exact hk) hkv i (W5.eq.rw_.imp tu)
        · rw [hnd, map_set2, W5.eq.ks]
          exact set_self (by rw [List.getElem?_map, hi, n2]; rfl)
      obtain ⟨kk, st6, hR6, _⟩ := W5.tab k6 T6 E6
      obtain ⟨qr, r1, r2, _, _⟩ := (W5.rw_.imp tu).get hi
      let M3 : List (Option V) → Hp → Prop := fun σ' H' => ∃ ws', Lw P w K cT a p t R ns H7 H' d (putT es key b (.ref qn)) ws' (rs.set i (r.1, v))
      refine ⟨M3, ⟨_, rfl, _, _, rfl, rfl, _, rfl, ifF (by simp) ?_⟩, ?_⟩
      · have hws : ws.length = rs.length := W5.rw_.len
        have hir : i < rs.length := (List.getElem?_eq_some_iff.mp hi).1
        refine ⟨_, rfl, _, rfl, R, _, _, _, rfl, rfl, SqL.of hR6, atI_nat r1, qr, _, _, _, rfl, rfl, .inl (.inl r2), rfl, _, rfl, (by show 2 ≤ sizeLine; decide), fun T3 nT3 => ?_⟩
        have u3 := same_upd (o := .tup [r.1, v]) nT3
        have hR7 := u3 _ _ hR6
        refine ⟨_, rfl, _, rfl, R, ws, i, i, rfl, rfl, hR7, ixN_nat (by omega), ?_⟩
        have kR : Keep p H7 (upd (upd H6 T3 (.tup [r.1, v])) R (.lst (ws.set i (.ref T3)))) := fun b o e n => by
          rw [upd_ne (ne_of_none e W.nR)]
          exact u3 _ _ (kk b o e n)
        have tuR : ∀ b xs, upd H6 T3 (.tup [r.1, v]) b = some (.tup xs) → (upd (upd H6 T3 (.tup [r.1, v])) R (.lst (ws.set i (.ref T3)))) b = some (.tup xs) := fun b xs e => by
          rw [upd_ne fun z => by rw [z, hR7] at e; cases e]
          exact e
        refine ⟨_, W.st7, kR, ?_, W.nR, W.nd, (T6.same u3).updR hR7, ⟨(E6.rw_.imp fun b xs e => u3 _ _ e).imp tuR, E6.ks, E6.nd⟩, upd_same, RwsAt.set (r := (r.1, v)) (tuR _ _ upd_same) n5 hkv i (((W5.rw_.imp tu).imp fun b xs e => u3 _ _ e).imp tuR), W.nRp⟩
        obtain ⟨x, kx, hp, h0, _⟩ := st6
        exact W.st7.ofK kR (by rw [upd_ne (Ne.symm W.nRp)]; exact u3 _ _ hp) h0
      rintro σ' H8 ⟨ws', W8⟩
      exact q _ _ _ _ W8 (by rw [List.length_set]; omega)
    · have hn : ∀ r ∈ rs, r.1 ≠ key := fun r m e => hex ⟨r, m, e⟩
      refine ⟨_, rfl, _, rfl, R, key, ws, rs, rfl, W1.hR, W1.rw_, hk, hlen, fun i r hi ek => absurd ek (hn r (List.mem_of_getElem? hi)), fun _ => ?_⟩
      have hnone : valT es key = none := W1.eq.no hn
      refine ⟨_, rfl, t, dx, _, rfl, ht1, tabn (by decide +kernel) d, _, rfl, t, d, es, key, rfl, W1.tb, hk, fun H2 s2 => ⟨_, .ty "bool", _, _, true, rfl, .ty _, .base (.bl _), kit_bool_bool, _, rfl, iteF ?_⟩⟩
      have W2 := W1.same s2
      refine ⟨_, rfl, t, dx, _, rfl, s2 _ _ ht1, tabn (by decide +kernel) d, _, rfl, t, d, es, key, rfl, W2.tb, hk, fun H3 s3 => ⟨_, rfl, _, _, rfl, rfl, rfl, _, rfl, ifF (by rw [hnone]; rfl) ?_⟩⟩
      have W4 := W2.same s3
      let M : List (Option V) → Hp → Prop := fun σ' H' => σ' = [some (.ref p), some (.ref t), some (.ref R), some key, some (.int (-1)), none] ∧ H' = H3
      refine ⟨M, ⟨_, rfl, _, _, rfl, rfl, _, rfl, ifF (by decide) ⟨rfl, rfl⟩⟩, ?_⟩
      rintro σ' H4 ⟨rfl, rfl⟩
      refine ⟨_, rfl, (by show 5 ≤ sizeLine; decide), fun T2 nT2 => ?_⟩
      have u2 := same_upd (o := .tup [.non, .bl true, .int 1, .str "x", .int 0]) nT2
      refine ⟨a, p, T2, ns, _, rfl, W4.st.same u2, .inl (.inl upd_same), (by show 0 < 5; decide), (by show 5 ≤ 100; decide), fun H5 v hv k5 st5 => ?_⟩
      have hkv : keyOk v = true := by
        simp only [List.mem_cons, List.not_mem_nil, or_false] at hv
        rcases hv with rfl | rfl | rfl | rfl | rfl <;> rfl
      have W5 := (W4.same u2).draw k5 st5
      obtain ⟨⟨dx5, ht5⟩, _, _⟩ := id W5.tb
      have hel := W5.eq.len
      refine ⟨_, rfl, t, dx5, _, rfl, ht5, tabn (by decide +kernel) d, _, rfl, _, rfl, t, d, es, key, v, rfl, W5.tb, hk, by omega, fun H6 b qn k6 T6 hqn nqn => ⟨_, rfl, ifF rfl ?_⟩⟩
      have hpe : putT es key b (.ref qn) = es ++ [(key, b, .ref qn)] := by
        unfold putT
        rw [hnone, if_neg (by simp)]
      have tu : ∀ b xs, H5 b = some (.tup xs) → H6 b = some (.tup xs) := fun b xs e => k6 _ _ e fun z => by
        rw [z, W5.tb.tab.at_] at e
        cases e
      have E6 : Eq2 H6 (putT es key b (.ref qn)) (rs ++ [(key, v)]) := by
        rw [hpe]
        refine ⟨by rw [List.map_append]; exact RwsAt.snoc (r := (key, v)) hqn hk hkv (W5.eq.rw_.imp tu), by rw [List.map_append, List.map_append, W5.eq.ks]; rfl, ?_⟩
        rw [List.map_append, List.nodup_append]
        refine ⟨W5.eq.nd, by simp, fun x hx y hy => ?_⟩
        obtain ⟨r, m, e⟩ := List.mem_map.mp hx
        rw [List.map_singleton, List.mem_singleton] at hy
        rw [← e, hy]
        exact hn r m
      obtain ⟨kk, st6, hR6, _⟩ := W5.tab k6 T6 E6
      let M3 : List (Option V) → Hp → Prop := fun σ' H' => ∃ ws', Lw P w K cT a p t R ns H7 H' d (putT es key b (.ref qn)) ws' (rs ++ [(key, v)])
      refine ⟨M3, ⟨_, rfl, _, _, rfl, rfl, _, rfl, ifT (by decide) ?_⟩, ?_⟩
      · have hws : ws.length = rs.length := W5.rw_.len
        refine ⟨_, rfl, .inl ⟨rfl, _, SqL.of hR6⟩, _, rfl, _, rfl, (by show 2 ≤ sizeLine; decide), fun T3 nT3 => ?_⟩
        have u3 := same_upd (o := .tup [key, v]) nT3
        have hR7 := u3 _ _ hR6
        refine ⟨R, ws, _, rfl, rfl, hR7, Nat.lt_of_le_of_lt (m := 1001) (by omega) (by decide), ?_⟩
        have kR : Keep p H7 (upd (upd H6 T3 (.tup [key, v])) R (.lst (ws ++ [.ref T3]))) := fun b o e n => by
          rw [upd_ne (ne_of_none e W.nR)]
          exact u3 _ _ (kk b o e n)
        have tuR : ∀ b xs, upd H6 T3 (.tup [key, v]) b = some (.tup xs) → (upd (upd H6 T3 (.tup [key, v])) R (.lst (ws ++ [.ref T3]))) b = some (.tup xs) := fun b xs e => by
          rw [upd_ne fun z => by rw [z, hR7] at e; cases e]
          exact e
        refine ⟨_, W.st7, kR, ?_, W.nR, W.nd, (T6.same u3).updR hR7, ⟨(E6.rw_.imp fun b xs e => u3 _ _ e).imp tuR, E6.ks, E6.nd⟩, upd_same, RwsAt.snoc (r := (key, v)) (tuR _ _ upd_same) hk hkv (((W5.rw_.imp tu).imp fun b xs e => u3 _ _ e).imp tuR), W.nRp⟩
        obtain ⟨x, kx, hp, h0, _⟩ := st6
        exact W.st7.ofK kR (by rw [upd_ne (Ne.symm W.nRp)]; exact u3 _ _ hp) h0
      rintro σ' H8 ⟨ws', W8⟩
      exact q _ _ _ _ W8 (by rw [List.length_append, List.length_singleton]; omega)
end
end My
namespace My
open PySem L2 SX XT XS XE
open C8 (pss_cut tCut cutS_slice pe_gc)
abbrev sSE : Stmt := inClass (top 8) 0
theorem evSE (cda cc : Addr) : (supOf sSE "ScriptError.__init__" cda cc).Ev := fun env => ⟨⟨_, by rfl⟩, by rfl, by rfl⟩
theorem bodySE (cda cc : Addr) : defBody sSE = (supOf sSE "ScriptError.__init__" cda cc).body := by rfl
theorem scSE : NdefX.NScope ["self", "kind", "message", "__class__"] ["self", "kind", "message"] ["__class__"] (defScope sSE) := NdefX.nscope_by (by decide +kernel)
section
variable {P : Program} {w : World} {K : PySem.W.Frag} {mg : Str → Option Value} {base : Heap} {cE fI cda cc : Addr}
theorem lt_len {s : Str} (h : s.length ≤ 100000) : s.length ≤ sizeLine := by rw [sizeLine_eq]; omega
theorem ok_SE {dV kV doc pm ct oc : Value} {an od : Option Addr} {osl : Array (Option Value)} (lk : K.lookup fI = some ⟨oc, od, .func (PySem.W.ksFn "__init__" "ScriptError.__init__" (defArgs sSE) (defBody sSE) (defScope sSE) dV kV doc pm an (.ref cda) ct cc), osl⟩)
    (hcd : PySem.W.codeIn K (.ref cda) "ScriptError.__init__" = true) (T : Exn P K mg cE fI "kind" "message") (U : Sup P K mg cda cc cE cE) :
    FnOk P w K mg base CX0 1 fI (PySem.W.ksFn "__init__" "ScriptError.__init__" (defArgs sSE) (defBody sSE) (defScope sSE) dV kV doc pm an (.ref cda) ct cc) ["self", "kind", "message"] (spTwo cE "kind" "message") := by
  refine fn_super (D := cE) (F := supOf sSE "ScriptError.__init__" cda cc) lk hcd scSE rfl rfl (show (defScope sSE).names.lookup ("super" : Str) = some .globalImplicit by decide +kernel) (evSE cda cc) (fun vs H Q E h => ?_) (fun A outer s H vs Q E hr h => ?_)
  · obtain ⟨a, v1, v2, rfl, _⟩ := h
    rfl
  · obtain ⟨a, v1, v2, rfl, ha, ⟨k1, rfl, z1⟩, ⟨k2, rfl, z2⟩, q⟩ := h
    refine ⟨a, cE, _, _, rfl, ha, T.oex, U, pa_cons (pe_joined (.cons (pe_fmt (pv 1)) (.cons pe_str (.cons (pe_fmt (pv 2)) .nil)))) pa_nil, pss_cons (ps_ost (pv 0) (pv 1)) (pss_one (ps_ost (pv 0) (pv 2))), ?_⟩
    have l0 : (Str.empty : Str).length = 0 := by decide +kernel
    have l2 : ((": " : Str)).length = 2 := by decide +kernel
    refine ⟨_, rfl, .inl ⟨k1, rfl, lt_len z1, k1, rfl, ?_, ?_⟩⟩
    · rw [Str.length_append, l0, sizeLine_eq]
      omega
    · refine ⟨_, rfl, ?_, _, rfl, .inl ⟨k2, rfl, lt_len z2, k2, rfl, ?_, ?_⟩⟩
      · rw [Str.length_append, Str.length_append, l0, l2, sizeLine_eq]
        omega
      · rw [Str.length_append, Str.length_append, Str.length_append, l0, l2, sizeLine_eq]
        omega
      · refine ⟨by show 1 ≤ 1000; omega, ha, ?_⟩
        refine ⟨_, rfl, _, rfl, a, cE, rfl, T.oex, T.n1, .inl ⟨ha, fun d hd hne => ?_⟩⟩
        refine ⟨_, rfl, _, rfl, a, cE, rfl, T.oex, T.n2, .inr ⟨d, [("kind", .str k1)], upd_same, ?_, (by show 1 ≤ 900; omega), ?_⟩⟩
        · rw [upd_ne hne]
          exact upd_same
        · exact q d hd hne
end
end My
namespace My
open PySem L2 SX XT XS XE
open C8 (pss_cut tCut cutS_slice pe_gc)
theorem lk_skip {k k' : Str} {v : V} {r : List (Str × V)} (h : (k == k') = false) : ((k', v) :: r).lookup k = r.lookup k := by
  simp [List.lookup, h]
/-! ### == of two Refs -/
inductive TyE (H : Hp) : V → Value → Prop where
  | ins {a C dx : Addr} {fs : List (Str × V)} (e : H a = some (.ins C dx fs)) : TyE H (.ref a) (.ref C)
theorem TyE.looks {X : Cx} {pins : List (Addr × Obj)} {s : Shared} {σ : St} {H : Hp} {y : V} {u t : Value} (I : Inv X pins σ H s) (r : RelV y u) (ty : TyE H y t) : PySem.W.Looks (model X.prog X.w) s.heap (typeOf u) t := by
  cases ty with
  | ins e =>
    cases (show u = Value.ref _ from r)
    obtain ⟨mA, J, _⟩ := ins_get I.hok e
    obtain ⟨od, J, _⟩ := J.look
    exact J.type
structure OwnEq (K : PySem.W.Frag) (C f : Addr) : Prop where
  at_ : PySem.W.findIn K (.ref C) "__eq__" = some (some (.ref f))
  fn : PySem.W.isFn K (.ref f) = true
theorem nf_self {K : PySem.W.Frag} (C : Addr) : PySem.W.notFirst K C (.ref C) = true := by simp [PySem.W.notFirst]
theorem own_run {X : Cx} {n : Nat} {CX : CXT} {f : Addr} {fd : FuncData} {ps : List Str} {sp : Sp} {E : XK} (F : FnOk X.prog X.w X.K X.mg X.base CX n f fd ps sp) (hb : Binds X.K fd ps []) (hx : Passes CX X E) (hr : Room n X.A)
    {pins : List (Addr × Obj)} {s : Shared} {σ : St} {H : Hp} {x y : V} {v u : Value} {Q : VK} (I : Inv X pins σ H s) (rx : RelV x v) (ry : RelV y u) (h : sp [x, y] H (fun z H' => ∃ b, z = .bl b ∧ Q (.bl b) H') E) :
    wpAny (model X.prog X.w) X.A (call (.ref f) [v, u]) (PySem.W.CmpBack (EP X pins σ Q)) X.xe s := by
  have hl := F.len _ _ _ _ h
  have r2 : Vals [x, y] [v, u] := .cons rx (.cons ry .nil)
  refine wpAny_call (codeAny_mono (F.run X.A X.stack s H ⟨[v, u], []⟩ [v, u] [x, y] _ E hr I.env0 (by
    have := hb s [v, u] I.kIn (by simpa using hl)
    simpa using this) r2 h) fun r s' hq => ?_)
  cases r with
  | error e => exact hx pins σ H s e s' I hq
  | ok fl =>
    cases fl with
    | ret w =>
      obtain ⟨z, H', I', rz, b, ez, q⟩ := I.after hq
      subst ez
      cases (show w = Value.bool b from rz)
      exact ⟨.bl b, H', I', rfl, q⟩
    | next => exact False.elim hq
    | brk => exact False.elim hq
    | cont => exact False.elim hq
/-- an instance with its own == on the left -/
theorem op_eqL {X : Cx} {n : Nat} {CX : CXT} {C f : Addr} {fd : FuncData} {ps : List Str} {sp : Sp} {E : XK} (O : OwnEq X.K C f) (F : FnOk X.prog X.w X.K X.mg X.base CX n f fd ps sp) (hb : Binds X.K fd ps []) (hx : Passes CX X E) (hr : Room n X.A) :
    OpR X (compareOp .Eq) (fun x y H Q => ∃ a dx fs tb, x = .ref a ∧ H a = some (.ins C dx fs) ∧ TyE H y tb ∧ PySem.W.notFirst X.K C tb = true ∧ sp [x, y] H (fun z H' => ∃ b, z = .bl b ∧ Q (.bl b) H') E) := by
  intro pins s σ H x y v u Q I rx ry h
  obtain ⟨a, dx, fs, tb, rfl, ha, ty, hn, h⟩ := h
  cases (show v = Value.ref a from rx)
  obtain ⟨mA, J, _⟩ := ins_get I.hok ha
  obtain ⟨od, J, _⟩ := J.look
  obtain ⟨m, hF⟩ := I.fr
  show wpAny (model X.prog X.w) X.A (richCompare .Eq (.ref a) u) (EP X pins σ Q) X.xe s
  exact PySem.W.cmp_K (op := .Eq) hr.units0 hF I.ok.mod.kin J (ty.looks I ry) hn O.at_ O.fn (own_run F hb hx hr I (x := .ref a) (v := .ref a) rfl ry h)
/-- what the written part says of Kin, Instance, Ref and Store -/
structure Cs (K : PySem.W.Frag) (mg : Str → Option Value) (cK cI cR cS : Addr) : Prop where
  clK : Cls K cK
  nK_name : PySem.W.findIn K (.ref cK) "name" = some none
  nK_parent : PySem.W.findIn K (.ref cK) "parent" = some none
  nK_methods : PySem.W.findIn K (.ref cK) "methods" = some none
  gK : mg "Kin" = some (.ref cK)
  clI : Cls K cI
  nI_owner : PySem.W.findIn K (.ref cI) "owner" = some none
  nI_named : PySem.W.findIn K (.ref cI) "named" = some none
  gI : mg "Instance" = some (.ref cI)
  tyI : ∀ {H : Hp} {a dx : Addr} {fs : List (Str × V)}, H a = some (.ins cI dx fs) → TyX K H (.ref a) (.ref cI)
  clR : Cls K cR
  nR_number : PySem.W.findIn K (.ref cR) "number" = some none
  gR : mg "Ref" = some (.ref cR)
  tyR : ∀ {H : Hp} {a dx : Addr} {fs : List (Str × V)}, H a = some (.ins cR dx fs) → TyX K H (.ref a) (.ref cR)
  clS : Cls K cS
  nS_things : PySem.W.findIn K (.ref cS) "things" = some none
  nS_output : PySem.W.findIn K (.ref cS) "output" = some none
  nS_lines : PySem.W.findIn K (.ref cS) "lines" = some none
  nS_taken : PySem.W.findIn K (.ref cS) "taken" = some none
  gS : mg "Store" = some (.ref cS)
theorem kit_self {K : PySem.W.Frag} (C : Addr) : PySem.W.kitOne K (.ref C) (.ref C) = some true := if_pos (beq_self_eq_true _)
section
variable {P : Program} {w : World} {K : PySem.W.Frag} {mg : Str → Option Value} {base : Heap} {cK cI cR cS : Addr}
abbrev sIK : Stmt := inClass (top 5) 0
abbrev sII : Stmt := inClass (top 4) 0
abbrev sIR : Stmt := inClass (top 10) 0
abbrev sER : Stmt := inClass (top 10) 1
abbrev sIS : Stmt := inClass (top 19) 0
abbrev sSM : Stmt := inClass (top 19) 1
abbrev sSA : Stmt := inClass (top 19) 2
theorem scIK : FnScope ["self", "name", "parent"] ["self", "name", "parent"] (defScope sIK) := ⟨rfl, rfl, rfl, by decide +kernel, rfl, by decide +kernel, by decide +kernel⟩
theorem scII : FnScope ["self", "owner"] ["self", "owner"] (defScope sII) := ⟨rfl, rfl, rfl, by decide +kernel, rfl, by decide +kernel, by decide +kernel⟩
theorem scIR : FnScope ["self", "number"] ["self", "number"] (defScope sIR) := ⟨rfl, rfl, rfl, by decide +kernel, rfl, by decide +kernel, by decide +kernel⟩
theorem scER : FnScope ["self", "other"] ["self", "other"] (defScope sER) := ⟨rfl, rfl, rfl, by decide +kernel, rfl, by decide +kernel, by decide +kernel⟩
theorem scIS : FnScope ["self", "lines"] ["self", "lines"] (defScope sIS) := ⟨rfl, rfl, rfl, by decide +kernel, rfl, by decide +kernel, by decide +kernel⟩
theorem scSM : FnScope ["self", "thing"] ["self", "thing"] (defScope sSM) := ⟨rfl, rfl, rfl, by decide +kernel, rfl, by decide +kernel, by decide +kernel⟩
theorem scSA : FnScope ["self", "ref"] ["self", "ref"] (defScope sSA) := ⟨rfl, rfl, rfl, by decide +kernel, rfl, by decide +kernel, by decide +kernel⟩
def spIT (C : Addr) (n : Nat) : Sp := fun vs H Q _ => ∃ a dx rest, vs = V.ref a :: rest ∧ rest.length = n ∧ H a = some (.ins C dx []) ∧ ∀ H' fs, Keep a H H' → H' a = some (.ins C dx fs) → Q .non H'
theorem ok_IK {f : Addr} {fd : FuncData} (F : Fun K "__init__" "Kin.__init__" sIK f fd) (T : Cs K mg cK cI cR cS) : FnOk P w K mg base CX0 1 f fd ["self", "name", "parent"] (spIT cK 2) := by
  refine F.ok scIK (fun vs H Q E h => ?_) (fun cdv A outer s H vs Q E hr h => ?_)
  · obtain ⟨a, dx, rest, rfl, hl, _⟩ := h
    show rest.length + 1 = _
    rw [hl]
    rfl
  · obtain ⟨a, dx, rest, rfl, hl, ha, q⟩ := h
    obtain ⟨v1, v2, rfl⟩ : ∃ v1 v2, rest = [v1, v2] := by
      match rest, hl with
      | [v1, v2], _ => exact ⟨_, _, rfl⟩
    refine ⟨_, pss_cons (ps_fld (pv 0) (pv 1) rfl) (pss_cons (ps_fld (pv 0) (pv 2) rfl) (pss_one (ps_fld (pv 0) pe_dnewK rfl))), ?_⟩
    refine ⟨_, rfl, _, rfl, a, cK, dx, _, rfl, ha, T.clK, T.nK_name, (by show 0 < 1000; decide), ?_⟩
    refine ⟨_, rfl, _, rfl, a, cK, dx, _, rfl, upd_same, T.clK, T.nK_parent, (by show 1 < 1000; decide), ?_⟩
    refine fun m hm => ?_
    refine ⟨_, rfl, a, cK, dx, _, rfl, (by rw [upd_ne (ne_of_none upd_same hm)]; exact upd_same), T.clK, T.nK_methods, (by show 2 < 1000; decide), ?_⟩
    exact q _ _ (fun b o e n => by rw [upd_ne n, upd_ne (ne_of_none (H := upd (upd H a _) a _) (by rw [upd_ne n, upd_ne n]; exact e) hm), upd_ne n, upd_ne n]; exact e) upd_same
def insF (v : V) (m : Addr) : List (Str × V) := [("owner", v), ("named", .ref m)]
def spII (cI : Addr) : Sp := fun vs H Q _ => ∃ a dx v, vs = [.ref a, v] ∧ H a = some (.ins cI dx []) ∧ ∀ H' m, Keep a H H' → H' a = some (.ins cI dx (insF v m)) → H m = none → H' m = some (.dK []) → Q .non H'
theorem ok_II {f : Addr} {fd : FuncData} (F : Fun K "__init__" "Instance.__init__" sII f fd) (T : Cs K mg cK cI cR cS) : FnOk P w K mg base CX0 1 f fd ["self", "owner"] (spII cI) := by
  refine F.ok scII (fun vs H Q E h => ?_) (fun cdv A outer s H vs Q E hr h => ?_)
  · obtain ⟨a, dx, v, rfl, _⟩ := h
    rfl
  · obtain ⟨a, dx, v, rfl, ha, q⟩ := h
    refine ⟨_, pss_cons (ps_fld (pv 0) (pv 1) rfl) (pss_one (ps_fld (pv 0) pe_dnewK rfl)), ?_⟩
    refine ⟨_, rfl, _, rfl, a, cI, dx, _, rfl, ha, T.clI, T.nI_owner, (by show 0 < 1000; decide), ?_⟩
    refine fun m hm => ?_
    have nam : a ≠ m := ne_of_none upd_same hm
    refine ⟨_, rfl, a, cI, dx, _, rfl, (by rw [upd_ne nam]; exact upd_same), T.clI, T.nI_named, (by show 1 < 1000; decide), ?_⟩
    refine q _ m (fun b o e n => by rw [upd_ne n, upd_ne (ne_of_none (H := upd H a _) (by rw [upd_ne n]; exact e) hm), upd_ne n]; exact e) upd_same (by rw [upd_ne nam.symm] at hm; exact hm) (by rw [upd_ne nam.symm]; exact upd_same)
def refF (i : Int) : List (Str × V) := [("number", .int i)]
def RefAt (cR : Addr) (H : Hp) (r : Addr) (i : Int) : Prop := ∃ dx, H r = some (.ins cR dx (refF i))
theorem RefAt.same {H H' : Hp} {r : Addr} {i : Int} (s : Same H H') (h : RefAt cR H r i) : RefAt cR H' r i := by
  obtain ⟨dx, h⟩ := h
  exact ⟨dx, s _ _ h⟩
def spIR (cR : Addr) : Sp := fun vs H Q _ => ∃ a dx i, vs = [.ref a, .int i] ∧ H a = some (.ins cR dx []) ∧ ∀ H', Keep a H H' → RefAt cR H' a i → Q .non H'
theorem ok_IR {f : Addr} {fd : FuncData} (F : Fun K "__init__" "Ref.__init__" sIR f fd) (T : Cs K mg cK cI cR cS) : FnOk P w K mg base CX0 1 f fd ["self", "number"] (spIR cR) := by
  refine F.ok scIR (fun vs H Q E h => ?_) (fun cdv A outer s H vs Q E hr h => ?_)
  · obtain ⟨a, dx, v, rfl, _⟩ := h
    rfl
  · obtain ⟨a, dx, v, rfl, ha, q⟩ := h
    refine ⟨_, pss_one (ps_fld (pv 0) (pv 1) rfl), ?_⟩
    exact ⟨_, rfl, _, rfl, a, cR, dx, [], rfl, ha, T.clR, T.nR_number, (by show 0 < 1000; decide), q _ (fun b o e n => by rw [upd_ne n]; exact e) ⟨dx, upd_same⟩⟩
def spER (cR : Addr) : Sp := fun vs H Q _ => ∃ a b n m, vs = [.ref a, .ref b] ∧ RefAt cR H a n ∧ RefAt cR H b m ∧ Q (.bl (decide (n = m))) H
theorem ok_ER {f : Addr} {fd : FuncData} (F : Fun K "__eq__" "Ref.__eq__" sER f fd) (T : Cs K mg cK cI cR cS) (B : Bl mg) : FnOk P w K mg base CX0 1 f fd ["self", "other"] (spER cR) := by
  refine F.ok scER (fun vs H Q E h => ?_) (fun cdv A outer s H vs Q E hr h => ?_)
  · obtain ⟨a, b, n, m, rfl, _⟩ := h
    rfl
  · obtain ⟨a, b, n, m, rfl, ⟨dx, ha⟩, ⟨dy, hb⟩, q⟩ := h
    refine ⟨_, pss_one (ps_ret (pe_and (pe_callB call_isi (by rfl) B.isinstance (by decide +kernel) (pa_cons (pv 1) (pa_cons (pe_gc (v := .ref cR) (by rfl) ⟨_, T.gR, rfl⟩) pa_nil))) (pe_one (pe_cmpR op_eq (pe_fld (pv 0) rfl) (pe_fld (pv 1) rfl) (nomark _))))), ?_⟩
    refine ⟨_, rfl, .ref b, .ref cR, .ref cR, .ref cR, true, rfl, .own _, T.tyR hb, kit_self _, true, rfl, ?_⟩
    refine iteT ⟨_, rfl, a, cR, dx, _, _, rfl, ha, T.clR, T.nR_number, lk_hit, _, rfl, b, cR, dy, _, _, rfl, hb, T.clR, T.nR_number, lk_hit, rfl, ?_⟩
    rw [show decide (V.int n = V.int m) = decide (n = m) by simp]
    exact q
theorem op_eqRef {X : Cx} {f : Addr} {fd : FuncData} (O : OwnEq X.K cR f) (F : FnOk X.prog X.w X.K X.mg X.base CX0 1 f fd ["self", "other"] (spER cR)) (hb : Binds X.K fd ["self", "other"] []) (hr : Room 1 X.A) :
    OpR X (compareOp .Eq) (fun x y H Q => ∃ a b n m, x = .ref a ∧ y = .ref b ∧ RefAt cR H a n ∧ RefAt cR H b m ∧ Q (.bl (decide (n = m))) H) := by
  intro pins s σ H x y v u Q I rx ry h
  obtain ⟨a, b, n, m, rfl, rfl, ⟨dx, ha⟩, ⟨dy, hb'⟩, q⟩ := h
  exact op_eqL O F hb (E := E0) pass0 hr pins s σ H _ _ v u Q I rx ry ⟨a, dx, _, _, rfl, ha, .ins hb', nf_self _, a, b, n, m, rfl, ⟨dx, ha⟩, ⟨dy, hb'⟩, _, rfl, q⟩
/-! ### the store -/
def stF (t o l : Addr) : List (Str × V) := [("things", .ref t), ("output", .ref o), ("lines", .ref l), ("taken", .int 0)]
def StAt (cS : Addr) (H : Hp) (s t : Addr) (xs : List V) : Prop := (∃ dx o l, H s = some (.ins cS dx (stF t o l))) ∧ H t = some (.lst xs)
theorem StAt.same {H H' : Hp} (k : Same H H') {s t : Addr} {xs : List V} (h : StAt cS H s t xs) : StAt cS H' s t xs := by
  obtain ⟨⟨dx, o, l, h1⟩, h2⟩ := h
  exact ⟨⟨dx, o, l, k _ _ h1⟩, k _ _ h2⟩
theorem st_lk (t o l : Addr) : (stF t o l).lookup ("things" : Str) = some (.ref t) := lk_hit
theorem st_no {n : Str} (t o l : Addr) (h1 : (n == ("things" : Str)) = false) (h2 : (n == ("output" : Str)) = false) (h3 : (n == ("lines" : Str)) = false) (h4 : (n == ("taken" : Str)) = false) : (stF t o l).lookup n = none := by
  unfold stF
  rw [lk_skip h1, lk_skip h2, lk_skip h3, lk_skip h4]
  rfl
def spIS (K : PySem.W.Frag) (cS : Addr) : Sp := fun vs H Q _ => ∃ a dx l xs, vs = [.ref a, .ref l] ∧ H a = some (.ins cS dx []) ∧ SqL K H l xs ∧ ∀ H' t x, Keep a H H' → StAt cS H' a t [.ref x] → H t = none → Q .non H'
theorem ok_IS {f fK : Addr} {fd gK : FuncData} (F : Fun K "__init__" "Store.__init__" sIS f fd) (T : Cs K mg cK cI cR cS) (B : Bl mg) (M : Mk K cK fK) (FK : Fun K "__init__" "Kin.__init__" sIK fK gK) (bK : Binds K gK ["self", "name", "parent"] []) : FnOk P w K mg base CX0 3 f fd ["self", "lines"] (spIS K cS) := by
  have GK : FnOk P w K mg base CX0 1 fK gK ["self", "name", "parent"] (spIT cK 2) := ok_IK FK T
  refine F.ok scIS (fun vs H Q E h => ?_) (fun cdv A outer s H vs Q E hr h => ?_)
  · obtain ⟨a, dx, l, xs, rfl, _⟩ := h
    rfl
  · obtain ⟨a, dx, l, xs, rfl, ha, hl, q⟩ := h
    refine ⟨_, pss_cons (ps_fld (pv 0) (pe_lst (pa_cons (pe_make M GK hr (by rfl) T.gK bK .nil pass0 (pa_cons pe_str (pa_cons pe_non pa_nil))) pa_nil)) rfl)
      (pss_cons (ps_fld (pv 0) (pe_lst pa_nil) rfl) (pss_cons (ps_fld (pv 0) (pe_callTy call_list_of (by rfl) B.list (by decide +kernel) (pa_cons (pv 1) pa_nil)) rfl) (pss_one (ps_fld (pv 0) pe_int rfl)))), ?_⟩
    intro y dy ny ndy nyd
    refine ⟨y, dy, _, rfl, rfl, upd_same, fun H1 fs k1 hy => ⟨rfl, ?_⟩⟩
    have s1 : Same H H1 := Same.made ny ndy k1
    refine ⟨(by show 1 ≤ sizeLine; decide), fun t nt => ?_⟩
    have nt0 : H t = none := s1.free nt
    have ha1 := s1 _ _ ha
    have nat : a ≠ t := ne_of_none ha1 nt
    refine ⟨_, rfl, a, cS, dx, [], rfl, (by rw [upd_ne nat]; exact ha1), T.clS, T.nS_things, (by show 0 < 1000; decide), ?_⟩
    refine ⟨Nat.zero_le _, fun o no => ?_⟩
    have nao : a ≠ o := ne_of_none upd_same no
    refine ⟨_, rfl, a, cS, dx, _, rfl, (by rw [upd_ne nao]; exact upd_same), T.clS, T.nS_output, (by show 1 < 1000; decide), ?_⟩
    have hne : ∀ b ob, H b = some ob → b ≠ y ∧ b ≠ t ∧ (b ≠ a → b ≠ o) := fun b ob e => by
      have e1 := s1 _ _ e
      refine ⟨(fun z => by rw [z, ny] at e; cases e), (fun z => by rw [z, nt] at e1; cases e1), fun n z => ?_⟩
      subst z
      rw [upd_ne n, upd_ne (fun z => by rw [z, nt] at e1; cases e1)] at no
      rw [no] at e1
      cases e1
    have nyt : y ≠ t := ne_of_none hy nt
    have nya : y ≠ a := fun z => by rw [z, ha] at ny; cases ny
    have nyo : y ≠ o := fun z => by
      subst z
      rw [upd_ne nya, upd_ne nyt, hy] at no
      cases no
    have nto : t ≠ o := fun z => by
      subst z
      rw [upd_ne nat.symm, upd_same] at no
      cases no
    refine ⟨_, rfl, l, xs, rfl, .inl ?_, fun m hm => ?_⟩
    · have nl : ∀ ob, H l = some ob → ob ≠ .ins cS dx [] → (upd (upd (upd (upd H1 t (.lst [V.ref y])) a (.ins cS dx (putF "things" (V.ref t) []))) o (.lst [])) a (.ins cS dx (putF "output" (V.ref o) (putF "things" (V.ref t) [])))) l = some ob := fun ob e n => by
        have na : l ≠ a := fun z => n (by rw [z, ha] at e; exact (Option.some.inj e).symm)
        obtain ⟨_, n2, n3⟩ := hne _ _ e
        rw [upd_ne na, upd_ne (n3 na), upd_ne na, upd_ne n2]
        exact s1 _ _ e
      rcases hl with (hl | ⟨ob, hl⟩) | hl
      · exact .inl (.inl (nl _ hl nofun))
      · exact .inl (.inr ⟨ob, nl _ hl nofun⟩)
      · exact .inr hl
    · have nam : a ≠ m := ne_of_none upd_same hm
      refine ⟨_, rfl, a, cS, dx, _, rfl, (by rw [upd_ne nam]; exact upd_same), T.clS, T.nS_lines, (by show 2 < 1000; decide), ?_⟩
      refine ⟨_, rfl, a, cS, dx, _, rfl, upd_same, T.clS, T.nS_taken, (by show 3 < 1000; decide), ?_⟩
      have nym : y ≠ m := fun z => by
        subst z
        rw [upd_ne nya, upd_ne nyo, upd_ne nya, upd_ne nyt, hy] at hm
        cases hm
      have ntm : t ≠ m := fun z => by
        subst z
        rw [upd_ne nat.symm, upd_ne nto, upd_ne nat.symm, upd_same] at hm
        cases hm
      refine q _ t y (fun b ob e n => ?_) ⟨⟨dx, o, m, ?_⟩, ?_⟩ nt0
      · obtain ⟨_, n2, n3⟩ := hne _ _ e
        have nbm : b ≠ m := fun z => by
          subst z
          rw [upd_ne n, upd_ne (n3 n), upd_ne n, upd_ne n2, s1 _ _ e] at hm
          cases hm
        rw [upd_ne n, upd_ne n, upd_ne nbm, upd_ne n, upd_ne (n3 n), upd_ne n, upd_ne n2]
        exact s1 _ _ e
      · rw [upd_same]
        rfl
      · rw [upd_ne nat.symm, upd_ne nat.symm, upd_ne ntm, upd_ne nat.symm, upd_ne nto, upd_ne nat.symm, upd_same]
structure Si (K : PySem.W.Frag) (cR fR : Addr) (gR : FuncData) : Prop where
  mR : Mk K cR fR
  FR : Fun K "__init__" "Ref.__init__" sIR fR gR
  bR : Binds K gR ["self", "number"] []
def spSM (cR cS : Addr) : Sp := fun vs H Q _ => ∃ s t x xs, vs = [.ref s, .ref x] ∧ StAt cS H s t xs ∧ xs.length < 1000 ∧ ∀ H' r, Keep t H H' → H' t = some (.lst (xs ++ [.ref x])) → H r = none → RefAt cR H' r (xs.length : Nat) → Q (.ref r) H'
theorem ok_SM {f fR : Addr} {fd gR : FuncData} (F : Fun K "make" "Store.make" sSM f fd) (T : Cs K mg cK cI cR cS) (B : Bl mg) (S : Si K cR fR gR) : FnOk P w K mg base CX0 3 f fd ["self", "thing"] (spSM cR cS) := by
  have GR : FnOk P w K mg base CX0 1 fR gR ["self", "number"] (spIR cR) := ok_IR S.FR T
  refine F.ok scSM (fun vs H Q E h => ?_) (fun cdv A outer s H vs Q E hr h => ?_)
  · obtain ⟨s, t, x, xs, rfl, _⟩ := h
    rfl
  · obtain ⟨s, t, x, xs, rfl, ⟨⟨dx, o, l, h1⟩, h2⟩, hl, q⟩ := h
    refine ⟨_, pss_cons (ps_expr (pe_bm PySem.F.plainAttrs_list PySem.F.slot_list_append PySem.F.type_list_append mt_append (pe_fld (pv 0) rfl) (pa_cons (pv 1) pa_nil)))
      (pss_one (ps_ret (pe_make S.mR GR hr (by rfl) T.gR S.bR .nil pass0 (pa_cons (pe_op op_sub (pe_callB call_len_seq (by rfl) B.len PySem.boot_len (pa_cons (pe_fld (pv 0) rfl) pa_nil)) pe_int) pa_nil)))), ?_⟩
    have nst : s ≠ t := fun z => by rw [z, h2] at h1; cases h1
    refine ⟨_, rfl, s, cS, dx, _, _, rfl, h1, T.clS, T.nS_things, st_lk t o l, .inl ⟨rfl, _, SqL.of h2⟩, _, rfl, t, xs, _, rfl, rfl, h2, Nat.lt_trans hl (by decide), ?_⟩
    refine ⟨_, rfl, s, cS, dx, _, _, rfl, (by rw [upd_ne nst]; exact h1), T.clS, T.nS_things, st_lk t o l, t, _, rfl, .inl (SqL.of upd_same), _, _, rfl, rfl, ?_⟩
    intro r dr nr ndr ndrr
    refine ⟨r, dr, _, rfl, upd_same, fun H1 k1 hR1 => ⟨rfl, ?_⟩⟩
    have s1 := Same.made nr ndr k1
    have nrt : r ≠ t := fun z => by rw [z, upd_same] at nr; cases nr
    refine q _ r (fun b ob e n => s1 _ _ (by rw [upd_ne n]; exact e)) (s1 _ _ upd_same) (by rw [upd_ne nrt] at nr; exact nr) ?_
    have : (((xs ++ [V.ref x]).length : Nat) : Int) - 1 = (xs.length : Nat) := by
      rw [List.length_append, List.length_singleton]
      omega
    rw [this] at hR1
    exact hR1
def spSA (cR cS : Addr) : Sp := fun vs H Q _ => ∃ s t r xs v, ∃ i : Nat, vs = [.ref s, .ref r] ∧ StAt cS H s t xs ∧ RefAt cR H r i ∧ xs[i]? = some v ∧ Q v H
theorem ok_SA {f : Addr} {fd : FuncData} (F : Fun K "at" "Store.at" sSA f fd) (T : Cs K mg cK cI cR cS) : FnOk P w K mg base CX0 1 f fd ["self", "ref"] (spSA cR cS) := by
  refine F.ok scSA (fun vs H Q E h => ?_) (fun cdv A outer s H vs Q E hr h => ?_)
  · obtain ⟨s, t, r, xs, v, i, rfl, _⟩ := h
    rfl
  · obtain ⟨s, t, r, xs, v, i, rfl, ⟨⟨dx, o, l, h1⟩, h2⟩, ⟨dr, hR⟩, hi, q⟩ := h
    refine ⟨_, pss_one (ps_ret (pe_ix ix_list (pe_fld (pv 0) rfl) (pe_fld (pv 1) rfl) (fun _ _ => rfl))), ?_⟩
    exact ⟨_, rfl, s, cS, dx, _, _, rfl, h1, T.clS, T.nS_things, st_lk t o l, _, rfl, r, cR, dr, _, _, rfl, hR, T.clR, T.nR_number, lk_hit, t, _, _, v, rfl, rfl, SqL.of h2, atI_nat hi, q⟩
end
end My
namespace My
open PySem L2 SX XT XS XE
open C8 (pss_cut tCut cutS_slice pe_gc)
section
variable {P : Program} {w : World} {K : PySem.W.Frag} {mg : Str → Option Value} {base : Heap} {cK cI cR cS : Addr}
abbrev sCS : Stmt := top 13
abbrev sSF : Stmt := top 15
abbrev sME : Stmt := top 16
abbrev sMF : Stmt := top 17
theorem scCS : FnScope ["size"] ["size"] (defScope sCS) := ⟨rfl, rfl, rfl, by decide +kernel, rfl, by decide +kernel, by decide +kernel⟩
theorem scSF : FnScope ["store", "instance", "pairs", "named", "new", "name", "_", "value"] ["store", "instance", "pairs"] (defScope sSF) := ⟨rfl, rfl, rfl, by decide +kernel, rfl, by decide +kernel, by decide +kernel⟩
theorem scME : FnScope ["store", "error"] ["store", "error"] (defScope sME) := ⟨rfl, rfl, rfl, by decide +kernel, rfl, by decide +kernel, by decide +kernel⟩
theorem scMF : FnScope ["store", "kin", "kind", "message", "instance"] ["store", "kin", "kind", "message"] (defScope sMF) := ⟨rfl, rfl, rfl, by decide +kernel, rfl, by decide +kernel, by decide +kernel⟩
def spCS : Sp := fun vs H Q _ => ∃ i : Int, vs = [.int i] ∧ i ≤ 1000 ∧ Q .non H
theorem ok_CS {f : Addr} {fd : FuncData} (F : Fun K "check_size" "check_size" sCS f fd) (mH : ∃ t, mg "MOST_HELD" = some (.int 1000 t)) : FnOk P w K mg base CX0 1 f fd ["size"] spCS := by
  obtain ⟨tH, mH⟩ := mH
  refine F.ok scCS (fun vs H Q E h => ?_) (fun cdv A outer s H vs Q E hr h => ?_)
  · obtain ⟨i, rfl, _⟩ := h
    rfl
  · obtain ⟨i, rfl, hi, q⟩ := h
    refine ⟨_, pss_one (ps_if (pt_cmpR op_gt (pv 0) (pe_glob (v := .int 1000) (by rfl) mH ⟨_, rfl⟩) (nomark _)) (pss_one ps_never) pss_nil), ?_⟩
    exact ⟨_, rfl, _, _, rfl, rfl, _, rfl, ifF (decide_eq_false (by omega)) q⟩
abbrev kd2 (k m : V) : List (Key × V) := [(.inr "kind", k), (.inr "message", m)]
abbrev pN : List Str := ["kind", "message"]
/-- the two pairs -/
structure Prs (K : PySem.W.Frag) (H : Hp) (T : Addr) (k m : V) : Prop where
  h : ∃ p q, SqT K H T [.ref p, .ref q] ∧ SqT K H p [.str "kind", k] ∧ SqT K H q [.str "message", m]
theorem sqt_same {H H' : Hp} {r : Addr} {xs : List V} (s : Same H H') (h : SqT K H r xs) : SqT K H' r xs := by
  rcases h with (h | ⟨ob, h⟩) | h
  · exact .inl (.inl (s _ _ h))
  · exact .inl (.inr ⟨ob, s _ _ h⟩)
  · exact .inr h
theorem sqt_keepD {H H' : Hp} {p r : Addr} {xs : List V} {kvs : List (Key × V)} (hk : Keep p H H') (hp : H p = some (.dK kvs)) (h : SqT K H r xs) : SqT K H' r xs := by
  rcases h with (h | ⟨ob, h⟩) | h
  · exact .inl (.inl (hk _ _ h fun z => by rw [z, hp] at h; cases h))
  · exact .inl (.inr ⟨ob, hk _ _ h fun z => by rw [z, hp] at h; cases h⟩)
  · exact .inr h
theorem Prs.same {H H' : Hp} {T : Addr} {k m : V} (s : Same H H') (h : Prs K H T k m) : Prs K H' T k m := by
  obtain ⟨p, q, h1, h2, h3⟩ := h.h
  exact ⟨p, q, sqt_same s h1, sqt_same s h2, sqt_same s h3⟩
theorem Prs.keep {H H' : Hp} {T p : Addr} {k m : V} {kvs : List (Key × V)} (hk : Keep p H H') (hp : H p = some (.dK kvs)) (h : Prs K H T k m) : Prs K H' T k m := by
  obtain ⟨p, q, h1, h2, h3⟩ := h.h
  exact ⟨p, q, sqt_keepD hk hp h1, sqt_keepD hk hp h2, sqt_keepD hk hp h3⟩
theorem insF_named {v : V} {m : Addr} : (insF v m).lookup ("named" : Str) = some (.ref m) := by
  unfold insF
  rw [lk_skip (by decide +kernel)]
  exact lk_hit
theorem insF_owner {v : V} {m : Addr} : (insF v m).lookup ("owner" : Str) = some v := lk_hit
structure Sm (K : PySem.W.Frag) (mg : Str → Option Value) (cS cI fM fA fI kC kF kG : Addr) (gM gA gI uC uF uG : FuncData) : Prop where
  mM : Meth K cS "make" fM
  FM : Fun K "make" "Store.make" sSM fM gM
  bM : Binds K gM ["self", "thing"] []
  mA : Meth K cS "at" fA
  FA : Fun K "at" "Store.at" sSA fA gA
  bA : Binds K gA ["self", "ref"] []
  mI : Mk K cI fI
  FI : Fun K "__init__" "Instance.__init__" sII fI gI
  bI : Binds K gI ["self", "owner"] []
  FC : Fun K "check_size" "check_size" sCS kC uC
  bC : Binds K uC ["size"] []
  gC : mg "check_size" = some (.ref kC)
  mH : ∃ t, mg "MOST_HELD" = some (.int 1000 t)
  FF : Fun K "set_fields" "set_fields" sSF kF uF
  bF : Binds K uF ["store", "instance", "pairs"] []
  gF : mg "set_fields" = some (.ref kF)
  FG : Fun K "make_failure" "make_failure" sMF kG uG
  bG : Binds K uG ["store", "kin", "kind", "message"] []
  gG : mg "make_failure" = some (.ref kG)
variable {fM fA fI kC kF kG fR : Addr} {gM gA gI uC uF uG gR : FuncData}
def spSF (K : PySem.W.Frag) (cR cS cI : Addr) : Sp := fun vs H Q _ => ∃ s t r T xs x m dx k e v, ∃ i : Nat, vs = [.ref s, .ref r, .ref T] ∧ StAt cS H s t xs ∧ RefAt cR H r i ∧ xs[i]? = some (.ref x) ∧ H x = some (.ins cI dx (insF v m)) ∧ H m = some (.dK []) ∧ Prs K H T k e ∧
  ∀ H', Keep m H H' → H' m = some (.dK (kd2 k e)) → Q .non H'
theorem ok_SF {f : Addr} {fd : FuncData} (F : Fun K "set_fields" "set_fields" sSF f fd) (T : Cs K mg cK cI cR cS) (B : Bl mg) (S : Sm K mg cS cI fM fA fI kC kF kG gM gA gI uC uF uG) : FnOk P w K mg base CX0 2 f fd ["store", "instance", "pairs"] (spSF K cR cS cI) := by
  have GA : FnOk P w K mg base CX0 1 fA gA ["self", "ref"] (spSA cR cS) := ok_SA S.FA T
  have GC : FnOk P w K mg base CX0 1 kC uC ["size"] spCS := ok_CS S.FC S.mH
  refine F.ok scSF (fun vs H Q E h => ?_) (fun cdv A outer s H vs Q E hr h => ?_)
  · obtain ⟨s, t, r, T, xs, x, m, dx, k, e, v, i, rfl, _⟩ := h
    rfl
  · obtain ⟨s, t, r, Tp, xs, x, m, dx, k, e, v, i, rfl, hS, hR, hi, hx, hm, hP, q⟩ := h
    have nd := scSF.nd
    have hu := hu_of hr
    refine ⟨_, pss_cons (ps_set (i := 3) nd rfl (.inr rfl) (pe_fld (pe_meth (pv 0) T.clS S.mA GA hr S.bA .nil pass0 (pa_cons (pv 1) pa_nil)) rfl))
      (pss_cons (ps_setLc (i := 4) (own := [("name", 5), ("_", 6)]) (g := gTup K 2 (gCons (gName 5) (gCons (gName 6) gNil))) (by rfl) nd rfl rfl (sw_true rfl rfl rfl (by decide +kernel)) (pi_tup (pv 2)) (blkOk_by (own := [("name", 5), ("_", 6)]) (N := ["store", "instance", "pairs", "named", "new", "name", "_", "value"]) (sc := defScope (top 15)) (by decide +kernel))
          (fun _ _ _ _ _ => pg_tup (by rfl) (pgs_cons (pg_name (i := 5) nd rfl (.inl rfl)) (pgs_cons (pg_name (i := 6) nd rfl (.inl rfl)) pgs_nil))) (fun _ _ _ _ _ => pts_one (pt_cmp (pc_dnotin hu (pv 5) (pv 3)))) (fun _ _ _ _ _ => pv 5))
      (pss_cons (ps_expr (pe_call GC hr (by rfl) S.gC S.FC.kp S.bC .nil pass0 (pa_cons (pe_op op_add (pe_callB call_lenD (by rfl) B.len PySem.boot_len (pa_cons (pv 3) pa_nil)) (pe_callB call_len_seq (by rfl) B.len PySem.boot_len (pa_cons (pv 4) pa_nil))) pa_nil)))
      (pss_one (ps_for PassesOwn.never rfl (pi_tup (pv 2)) (pg_tup (by rfl) (pgs_cons (pg_name (i := 5) nd rfl (.inl rfl)) (pgs_cons (pg_name (i := 7) nd rfl (.inl rfl)) pgs_nil)))
        (pss_one (ps_dput hu (pv 3) (pv 5) (pv 7) rfl)))))), ?_⟩
    obtain ⟨⟨dsx, so, sl, hs1⟩, hs2⟩ := id hS
    obtain ⟨p1, p2, ht, hp1, hp2⟩ := id hP.h
    refine ⟨_, rfl, s, dsx, _, rfl, hs1, st_no _ _ _ (by decide +kernel) (by decide +kernel) (by decide +kernel) (by decide +kernel), _, rfl, s, t, r, xs, .ref x, i, rfl, hS, hR, hi, x, cI, dx, _, _, rfl, hx, T.clI, T.nI_named, insF_named, ?_⟩
    have pr : ∀ (j : Nat) (z : V) (H' : Hp), Same H H' → ([.ref p1, .ref p2] : List V)[j]? = some z → ∃ (pa : Addr) (nm : Str) (vl : V), z = .ref pa ∧ SqT K H' pa [.str nm, vl] ∧ pN[j]? = some nm ∧ ([k, e] : List V)[j]? = some vl := fun j z H' s' hz => by
      match j, hz with
      | 0, hz => cases hz; exact ⟨p1, _, _, rfl, sqt_same s' hp1, rfl, rfl⟩
      | 1, hz => cases hz; exact ⟨p2, _, _, rfl, sqt_same s' hp2, rfl, rfl⟩
    refine ⟨_, rfl, Tp, rfl, ⟨_, ht⟩, fun D nD => lc_tup (K := K) (a := Tp) (xs := [.ref p1, .ref p2]) (fun j H' => Same H H' ∧ H' D = some (.lst ((pN.take j).map V.str))) ⟨same_upd nD, upd_same⟩ (fun j H' _ h => sqt_same h.1 ht) ?_ ?_⟩
    · rintro j z H' hz ⟨s', hD⟩
      obtain ⟨pa, nm, vl, rfl, hpa, hnm, hvl⟩ := pr j z H' s' hz
      refine ⟨pa, _, rfl, hpa, rfl, _, _, rfl, _, _, rfl, rfl, rfl, ?_⟩
      have hj : j < 2 := by
        have := (List.getElem?_eq_some_iff.mp hz).1
        exact this
      have nmD : m ≠ D := fun z => by rw [z, nD] at hm; cases hm
      refine ⟨_, rfl, _, rfl, m, _, rfl, DGet.k (k := Sum.inr nm) (s' _ _ hm), _, rfl, iteT ⟨_, rfl, _, hD, ?_, ?_, ?_⟩⟩
      · rw [List.length_map, List.length_take]
        exact Nat.lt_of_le_of_lt (Nat.min_le_right _ _) (show 2 < sizeLine by decide)
      · exact fun b o e => by rw [upd_ne (ne_of_none e nD)]; exact s' _ _ e
      · rw [upd_same]
        rw [List.take_add_one, hnm]
        simp
    · rintro H' ⟨s', hD⟩
      have hm' := s' _ _ hm
      have hD2 : H' D = some (.lst [.str "kind", .str "message"]) := hD
      refine ⟨_, rfl, m, _, rfl, hm', _, rfl, D, _, rfl, .inl (SqL.of hD2), _, _, rfl, rfl, _, rfl, by decide, ?_⟩
      have hP' := hP.same s'
      obtain ⟨u1, u2, ht', hu1, hu2⟩ := id hP'.h
      let kvs : Nat → List (Key × V) := fun j => (kd2 k e).take j
      refine ⟨_, rfl, Tp, rfl, ⟨_, sqt_same s' ht⟩, for_tup (K := K) (a := Tp) (xs := [.ref p1, .ref p2]) (fun j σ H2 => ∃ y5 y6 y7 : Option V, σ = [some (.ref s), some (.ref r), some (.ref Tp), some (.ref m), some (.ref D), y5, y6, y7] ∧ Keep m H' H2 ∧ H2 m = some (.dK (kvs j))) ⟨_, _, _, rfl, fun _ _ e _ => e, hm'⟩ ?_ ?_ ?_⟩
      · rintro j σ H2 _ ⟨y5, y6, y7, rfl, k2, _⟩
        exact sqt_keepD k2 hm' (sqt_same s' ht)
      · rintro j z σ H2 hz ⟨y5, y6, y7, rfl, k2, hm2⟩
        obtain ⟨pa, nm, vl, rfl, hpa, hnm, hvl⟩ := pr j z H' s' hz
        refine ⟨pa, _, rfl, sqt_keepD k2 hm' hpa, rfl, _, _, rfl, _, _, rfl, rfl, ?_⟩
        have hl2 : (kvs j).length < sizeLine := Nat.lt_of_le_of_lt (by show ((kd2 k e).take j).length ≤ 2; rw [List.length_take]; exact Nat.min_le_right _ _) (show 2 < sizeLine by decide)
        refine ⟨_, rfl, _, rfl, _, rfl, m, _, rfl, DPut.k (k := Sum.inr nm) hm2 hl2, _, _, _, rfl, k2.trans keep_upd, ?_⟩
        rw [upd_same]
        match j, hnm, hvl with
        | 0, hnm, hvl => cases hnm; cases hvl; rfl
        | 1, hnm, hvl => cases hnm; cases hvl; rfl
      · rintro σ H2 ⟨y5, y6, y7, rfl, k2, hm2⟩
        exact q H2 (fun b o e n => k2 _ _ (s' _ _ e) n) hm2
def spMF (K : PySem.W.Frag) (cR cS cI : Addr) : Sp := fun vs H Q _ => ∃ s t r xs i, ∃ k e : Str, vs = [.ref s, .ref r, .str k, .str e] ∧ StAt cS H s t xs ∧ RefAt cR H r i ∧ xs.length < 900 ∧
  ∀ H' y x dx m, Keep t H H' → H' t = some (.lst (xs ++ [.ref x])) → RefAt cR H' y (xs.length : Nat) → H' x = some (.ins cI dx (insF (.ref r) m)) → H' m = some (.dK (kd2 (.str k) (.str e))) → Q (.ref y) H'
theorem ok_MF {f : Addr} {fd : FuncData} (F : Fun K "make_failure" "make_failure" sMF f fd) (T : Cs K mg cK cI cR cS) (B : Bl mg) (S : Sm K mg cS cI fM fA fI kC kF kG gM gA gI uC uF uG) (Si' : Si K cR fR gR) : FnOk P w K mg base CX0 4 f fd ["store", "kin", "kind", "message"] (spMF K cR cS cI) := by
  have GM : FnOk P w K mg base CX0 3 fM gM ["self", "thing"] (spSM cR cS) := ok_SM S.FM T B Si'
  have GI : FnOk P w K mg base CX0 1 fI gI ["self", "owner"] (spII cI) := ok_II S.FI T
  have GF : FnOk P w K mg base CX0 2 kF uF ["store", "instance", "pairs"] (spSF K cR cS cI) := ok_SF S.FF T B S
  refine F.ok scMF (fun vs H Q E h => ?_) (fun cdv A outer s H vs Q E hr h => ?_)
  · obtain ⟨s, t, r, xs, i, k, e, rfl, _⟩ := h
    rfl
  · obtain ⟨s, t, r, xs, i, k, e, rfl, hS, hR, hl, q⟩ := h
    have nd := scMF.nd
    refine ⟨_, pss_cons (ps_set (i := 4) nd rfl (.inl rfl) (pe_meth (pv 0) T.clS S.mM GM hr S.bM .nil pass0 (pa_cons (pe_make S.mI GI (hr.mono (by decide)) (by rfl) T.gI S.bI .nil pass0 (pa_cons (pv 1) pa_nil)) pa_nil)))
      (pss_cons (ps_expr (pe_call GF (hr.mono (by decide)) (by rfl) S.gF S.FF.kp S.bF .nil pass0 (pa_cons (pv 0) (pa_cons (pv 4) (pa_cons (pe_tup (pa_cons (pe_tup (pa_cons pe_str (pa_cons (pv 2) pa_nil))) (pa_cons (pe_tup (pa_cons pe_str (pa_cons (pv 3) pa_nil))) pa_nil))) pa_nil)))))
      (pss_one (ps_ret (pv 4)))), ?_⟩
    obtain ⟨⟨dsx, so, sl, hs1⟩, hs2⟩ := id hS
    refine ⟨_, rfl, s, dsx, _, rfl, hs1, st_no _ _ _ (by decide +kernel) (by decide +kernel) (by decide +kernel) (by decide +kernel), _, rfl, ?_⟩
    intro x dx nx ndx ndxx
    refine ⟨x, dx, _, rfl, upd_same, fun H1 m k1 hx1 nm hm1 => ⟨rfl, ?_⟩⟩
    have s1 := Same.made nx ndx k1
    refine ⟨s, t, x, xs, rfl, hS.same s1, by omega, fun H2 y k2 ht2 ny hy2 => ?_⟩
    have ht1 : H1 t = some (.lst xs) := s1 _ _ hs2
    have hx2 := k2 _ _ hx1 (fun z => by rw [z, ht1] at hx1; cases hx1)
    have hm2 := k2 _ _ hm1 (fun z => by rw [z, ht1] at hm1; cases hm1)
    have hs2' : StAt cS H2 s t (xs ++ [.ref x]) := by
      obtain ⟨⟨dx', o', l', e1⟩, _⟩ := hS.same s1
      exact ⟨⟨dx', o', l', k2 _ _ e1 (fun z => by rw [z, ht1] at e1; cases e1)⟩, ht2⟩
    refine ⟨_, rfl, _, rfl, _, rfl, (by show 2 ≤ sizeLine; decide), fun T1 nT1 => ?_⟩
    refine ⟨_, rfl, (by show 2 ≤ sizeLine; decide), fun T2 nT2 => ⟨(by show 2 ≤ sizeLine; decide), fun T3 nT3 => ?_⟩⟩
    have u1 := same_upd (o := .tup [.str "kind", .str k]) nT1
    have u2 := same_upd (o := .tup [.str "message", .str e]) nT2
    have u3 := same_upd (o := .tup [.ref T1, .ref T2]) nT3
    have u := (u1.trans u2).trans u3
    refine ⟨s, t, y, T3, _, x, m, dx, .str k, .str e, _, xs.length, rfl, hs2'.same u, hy2.same u, by simp, u _ _ hx2, u _ _ hm2, ⟨T1, T2, .inl (.inl upd_same), .inl (.inl (u3 _ _ (u2 _ _ upd_same))), .inl (.inl (u3 _ _ upd_same))⟩, fun H3 k3 hm3 => ⟨_, rfl, ?_⟩⟩
    have hmu := u _ _ hm2
    have nem : ∀ {b : Addr} {o : HO}, (upd (upd (upd H2 T1 (.tup [.str "kind", .str k])) T2 (.tup [.str "message", .str e])) T3 (.tup [.ref T1, .ref T2])) b = some o → (∀ kvs, o ≠ .dK kvs) → b ≠ m := fun {b o} e ho z => by
      rw [z, hmu] at e
      exact ho _ (Option.some.inj e).symm
    have nmn : ∀ b o, H b = some o → b ≠ m := fun b o e z => by
      have := s1
      rw [z] at e
      have e2 := e
      have nmH : H m = none := by
        by_cases hxm : m = x
        · rw [hxm]; exact nx
        · by_cases hdm : m = dx
          · rw [hdm]; exact ndx
          · rw [upd_ne hxm, upd_ne hdm] at nm; exact nm
      rw [nmH] at e
      cases e
    refine q H3 y x dx m (fun b o e n => k3 _ _ (u _ _ (k2 _ _ (s1 _ _ e) n)) (nmn b o e)) (k3 _ _ (u _ _ ht2) (nem (u _ _ ht2) fun _ z => by cases z)) ?_ (k3 _ _ (u _ _ hx2) (nem (u _ _ hx2) fun _ z => by cases z)) hm3
    obtain ⟨dy, hy⟩ := hy2.same u
    exact ⟨dy, k3 _ _ hy (nem hy fun _ z => by cases z)⟩
end
end My
namespace My
open PySem L2 SX XT XS XE
open C8 (pss_cut tCut cutS_slice pe_gc)
/-- the errors -/
structure Ex (P : Program) (K : PySem.W.Frag) (mg : Str → Option Value) (cE cL fX : Addr) (gX : FuncData) : Prop where
  T : Exn P K mg cE fX "kind" "message"
  F : ∀ w base, FnOk P w K mg base CX0 1 fX gX ["self", "kind", "message"] (spTwo cE "kind" "message")
  b : Binds K gX ["self", "kind", "message"] []
  gE : mg "ScriptError" = some (.ref cE)
  gL : mg "LivequillError" = some (.ref cL)
  ec : ExcC K cE
  kL : PySem.W.kitOne K (.ref cE) (.ref cL) = some true
abbrev exF (k m : Str) : List (Str × V) := [("message", .str m), ("kind", .str k)]
theorem exF_k {k m : Str} : (exF k m).lookup ("kind" : Str) = some (.str k) := by
  rw [lk_skip (by decide +kernel)]
  exact lk_hit
theorem exF_m {k m : Str} : (exF k m).lookup ("message" : Str) = some (.str m) := lk_hit
theorem op_mul_str {X : Cx} : OpR X (binaryOp .Mult) (fun x y H Q => ∃ z n, x = .str z ∧ y = .int n ∧ MulOk z n ∧ Q (.str (Txt.mul z n)) H) := by
  intro pins s σ H x y v u Q I rx ry h
  obtain ⟨z, n, rfl, rfl, hz, q⟩ := h
  obtain ⟨t, rfl⟩ := rx
  obtain ⟨t', rfl⟩ := ry
  exact SB.mul hz (fun t' tk => ⟨.str (Txt.mul z n), H, I.tok _, ⟨_, rfl⟩, q⟩)
theorem mul_ok {z : Str} (h : z ∈ (["KindError", "x", ""] : List Str)) {r : Int} (h0 : 0 ≤ r) (h2 : r < 2) : MulOk z (1 + r) ∧ (Txt.mul z (1 + r)).length ≤ 100000 := by
  simp only [List.mem_cons, List.not_mem_nil, or_false] at h
  obtain rfl | rfl : r = 0 ∨ r = 1 := by omega
  all_goals (rcases h with rfl | rfl | rfl <;> unfold MulOk <;> decide +kernel)
section
variable {P : Program} {w : World} {K : PySem.W.Frag} {mg : Str → Option Value} {base : Heap} {cK cI cR cS cE cL fX : Addr} {gX : FuncData}
variable {fM fA fI kC kF kG fR fQ fK fS kE lC lB lD lP : Addr} {gM gA gI uC uF uG gR gQ gK gS uE hC hB hD hP : FuncData}
def spME (K : PySem.W.Frag) (cR cS cI cE : Addr) : Sp := fun vs H Q _ => ∃ s t ae d xs, ∃ k e : Str, vs = [.ref s, .ref ae] ∧ StAt cS H s t xs ∧ ExAt H ae cE d (exF k e) ∧ xs.length < 900 ∧
  ∀ H' y x dx m r, Keep t H H' → H' t = some (.lst (xs ++ [.ref x])) → RefAt cR H' y (xs.length : Nat) → RefAt cR H' r 0 → H' x = some (.ins cI dx (insF (.ref r) m)) → H' m = some (.dK (kd2 (.str k) (.str e))) → Q (.ref y) H'
theorem ok_ME {f : Addr} {fd : FuncData} (F : Fun K "make_error" "make_error" sME f fd) (T : Cs K mg cK cI cR cS) (B : Bl mg) (S : Sm K mg cS cI fM fA fI kC kF kG gM gA gI uC uF uG) (Si' : Si K cR fR gR) (Z : Ex P K mg cE cL fX gX) : FnOk P w K mg base CX0 5 f fd ["store", "error"] (spME K cR cS cI cE) := by
  have GG : FnOk P w K mg base CX0 4 kG uG ["store", "kin", "kind", "message"] (spMF K cR cS cI) := ok_MF S.FG T B S Si'
  have GR : FnOk P w K mg base CX0 1 fR gR ["self", "number"] (spIR cR) := ok_IR Si'.FR T
  refine F.ok scME (fun vs H Q E h => ?_) (fun cdv A outer s H vs Q E hr h => ?_)
  · obtain ⟨s, t, ae, d, xs, k, e, rfl, _⟩ := h
    rfl
  · obtain ⟨s, t, ae, d, xs, k, e, rfl, hS, hX, hl, q⟩ := h
    refine ⟨_, pss_one (ps_ret (pe_call GG hr (by rfl) S.gG S.FG.kp S.bG .nil pass0 (pa_cons (pv 0) (pa_cons (pe_make Si'.mR GR (hr.mono (by decide)) (by rfl) T.gR Si'.bR .nil pass0 (pa_cons pe_int pa_nil)) (pa_cons (pe_xo Z.T.xf Z.T.n1 (pv 1)) (pa_cons (pe_xo Z.T.xf Z.T.n2 (pv 1)) pa_nil)))))), ?_⟩
    refine ⟨_, rfl, ?_⟩
    intro r dr nr ndr ndrr
    refine ⟨r, dr, _, rfl, upd_same, fun H1 k1 hR1 => ⟨rfl, ?_⟩⟩
    have s1 := Same.made nr ndr k1
    have hX1 : ExAt H1 ae cE d (exF k e) := ⟨s1 _ _ hX.e, s1 _ _ hX.d⟩
    refine ⟨_, rfl, ae, d, _, _, rfl, hX1, exF_k, _, rfl, ae, d, _, _, rfl, hX1, exF_m, ?_⟩
    refine ⟨s, t, r, xs, 0, k, e, rfl, hS.same s1, hR1, hl, fun H2 y x dx m k2 h1 h2 h3 h4 => ?_⟩
    have ht1 : H1 t = some (.lst xs) := s1 _ _ hS.2
    obtain ⟨dr', e1⟩ := hR1
    exact q H2 y x dx m r (fun b o e n => k2 _ _ (s1 _ _ e) n) h1 h2 ⟨dr', k2 _ _ e1 (fun z => by rw [z, ht1] at e1; cases e1)⟩ h3 h4
/-! ### _law_error -/
structure EI (K : PySem.W.Frag) (cS a p s t : Addr) (ns : List Int) (H7 H : Hp) (xs : List V) : Prop where
  st7 : StL K H7 a p ns
  k : Keep p H7 H
  st : StL K H a p ns
  nt : H7 t = none
  S : StAt cS H s t xs
  tp : t ≠ p
theorem EI.draw {a p s t : Addr} {ns : List Int} {H7 H H' : Hp} {xs : List V} (E : EI K cS a p s t ns H7 H xs) (k : Keep p H H') (st : StL K H' a p ns) : EI K cS a p s t ns H7 H' xs := by
  obtain ⟨⟨dx, o, l, h1⟩, h2⟩ := E.S
  refine ⟨E.st7, E.k.trans k, st, E.nt, ⟨⟨dx, o, l, k _ _ h1 fun z => ?_⟩, k _ _ h2 E.tp⟩, E.tp⟩
  obtain ⟨x, kx, hp, _⟩ := E.st
  rw [z, hp] at h1
  cases h1
theorem EI.same {a p s t : Addr} {ns : List Int} {H7 H H' : Hp} {xs : List V} (E : EI K cS a p s t ns H7 H xs) (k : Same H H') : EI K cS a p s t ns H7 H' xs := E.draw (My.Same.keep k) (E.st.same k)
theorem EI.made {a p s t : Addr} {ns : List Int} {H7 H H' : Hp} {xs ys : List V} (E : EI K cS a p s t ns H7 H xs) (k : Keep t H H') (ht : H' t = some (.lst ys)) : EI K cS a p s t ns H7 H' ys := by
  have kk : Keep p H7 H' := fun b o e n => k _ _ (E.k _ _ e n) (ne_of_none e E.nt)
  obtain ⟨⟨dx, o, l, h1⟩, h2⟩ := E.S
  obtain ⟨x, kx, hp, h0, _⟩ := E.st
  exact ⟨E.st7, kk, E.st7.ofK kk (k _ _ hp E.tp.symm) h0, E.nt, ⟨⟨dx, o, l, k _ _ h1 fun z => by rw [z, h2] at h1; cases h1⟩, ht⟩, E.tp⟩
structure Se (K : PySem.W.Frag) (mg : Str → Option Value) (cR cK cS fQ fK fS kE : Addr) (gQ gK gS uE : FuncData) : Prop where
  oQ : OwnEq K cR fQ
  FQ : Fun K "__eq__" "Ref.__eq__" sER fQ gQ
  bQ : Binds K gQ ["self", "other"] []
  mK : Mk K cK fK
  FK : Fun K "__init__" "Kin.__init__" sIK fK gK
  bK : Binds K gK ["self", "name", "parent"] []
  mS : Mk K cS fS
  FS : Fun K "__init__" "Store.__init__" sIS fS gS
  bS : Binds K gS ["self", "lines"] []
  FE : Fun K "make_error" "make_error" sME kE uE
  bE : Binds K uE ["store", "error"] []
  gE : mg "make_error" = some (.ref kE)
abbrev sLErr : Stmt := top 29
theorem scLErr : FnScope ["state", "store", "k", "kind", "message", "error", "thing"] ["state"] (defScope sLErr) := ⟨rfl, rfl, rfl, by decide +kernel, rfl, by decide +kernel, by decide +kernel⟩
def spLErr (K : PySem.W.Frag) : Sp := fun vs H Q _ => ∃ a p ns, vs = [.ref p] ∧ StL K H a p ns ∧ ∀ H', Q (.bl true) H'
def kmD : PyData := .list [.str "kind", .str "message"]
theorem km_dp {H : Hp} {l : Addr} (h : H l = some (.lst [.str "kind", .str "message"])) : Dp K H (.ref l) kmD := .lst (SqL.of h) (.cons (.str _) (.cons (.str _) .nil))
theorem ok_lerr {f : Addr} {fd : FuncData} (F : Fun K "_law_error" "_law_error" sLErr f fd) (T : Cs K mg cK cI cR cS) (B : Bl mg) (S : Sm K mg cS cI fM fA fI kC kF kG gM gA gI uC uF uG) (Si' : Si K cR fR gR) (Z : Ex P K mg cE cL fX gX) (V1 : Se K mg cR cK cS fQ fK fS kE gQ gK gS uE)
    (L : Lx K mg lC lB lD lP hC hB hD hP) : FnOk P w K mg base CX0 6 f fd ["state"] (spLErr K) := by
  have GD : FnOk P w K mg base CX0 2 lD hD ["state", "many"] (spDraw K) := ok_draw L.fD B L.fC L.bC L.gC
  have GP : FnOk P w K mg base CX0 3 lP hP ["state", "row"] (spPick K) := ok_pick L.fP B L.fC L.bC L.gC L.fD L.bD L.gD
  have GS : FnOk P w K mg base CX0 3 fS gS ["self", "lines"] (spIS K cS) := ok_IS V1.FS T B V1.mK V1.FK V1.bK
  have GE : FnOk P w K mg base CX0 5 kE uE ["store", "error"] (spME K cR cS cI cE) := ok_ME V1.FE T B S Si' Z
  have GR : FnOk P w K mg base CX0 1 fR gR ["self", "number"] (spIR cR) := ok_IR Si'.FR T
  have GQ : FnOk P w K mg base CX0 1 fQ gQ ["self", "other"] (spER cR) := ok_ER V1.FQ T B
  refine F.ok scLErr (fun vs H Q E h => ?_) (fun cdv A outer s H vs Q E hr h => ?_)
  · obtain ⟨a, p, ns, rfl, _⟩ := h
    rfl
  · obtain ⟨a, p, ns, rfl, st7, q⟩ := h
    have nd := scLErr.nd
    have h1 : Room 1 _ := hr.mono (by decide)
    have h2 : Room 2 _ := hr.mono (by decide)
    have h3 : Room 3 _ := hr.mono (by decide)
    have h4 : Room 4 _ := hr.mono (by decide)
    have hu := hu_of hr
    refine ⟨_, pss_cons (ps_set (i := 1) nd rfl (.inl rfl) (pe_make V1.mS GS h4 (by rfl) T.gS V1.bS .nil pass0 (pa_cons (pe_lst pa_nil) pa_nil)))
      (pss_cons (ps_for PassesOwn.never rfl (pi_range1 (by rfl) B.range (pa_cons pe_int pa_nil)) (pg_name (i := 2) nd rfl (.inl rfl))
        (pss_cons (ps_set (i := 3) nd rfl (.inl rfl) (pe_op op_mul_str (pe_call GP h3 (by rfl) L.gP L.fP.kp L.bP .nil pass0 (pa_cons (pv 0) (pa_cons (pe_tup (pa_cons pe_str (pa_cons pe_str (pa_cons pe_str pa_nil)))) pa_nil))) (pe_op op_add pe_int (pe_call GD h2 (by rfl) L.gD L.fD.kp L.bD .nil pass0 (pa_cons (pv 0) (pa_cons pe_int pa_nil))))))
        (pss_cons (ps_set (i := 4) nd rfl (.inl rfl) (pe_call GP h3 (by rfl) L.gP L.fP.kp L.bP .nil pass0 (pa_cons (pv 0) (pa_cons (pe_tup (pa_cons pe_str (pa_cons pe_str (pa_cons pe_str pa_nil)))) pa_nil))))
        (pss_cons (ps_set (i := 5) nd rfl (.inl rfl) (pe_mkE Z.T.oex Z.T.iC Z.T.tI (Z.F _ _) h2 Z.b .nil pass0 (by rfl) Z.gE (pa_cons (pv 3) (pa_cons (pv 4) pa_nil))))
        (pss_cons (ps_if (PW.pt (pw_or (pt_not (pt_val (pe_callB (call_isEO Z.ec) (by rfl) B.isinstance (by decide +kernel) (pa_cons (pv 5) (pa_cons (pe_gc (v := .ref cL) (by rfl) ⟨_, Z.gL, rfl⟩) pa_nil)))))
          (pw_or (pt_cmpR op_ne (pe_xo Z.T.xf Z.T.n1 (pv 5)) (pv 3) (nomark _)) (pw_or1 (pt_cmpR op_ne (pe_xo Z.T.xf Z.T.n2 (pv 5)) (pv 4) (nomark _)))))) (pss_one (ps_ret pe_bl)) pss_nil)
        (pss_cons (ps_if (PW.pt (pw_or (pt_not (pt_cmpR (op_eqRef V1.oQ GQ V1.bQ h1) (pe_call GE hr (by rfl) V1.gE V1.FE.kp V1.bE .nil pass0 (pa_cons (pv 1) (pa_cons (pv 5) pa_nil))) (pe_make Si'.mR GR h2 (by rfl) T.gR Si'.bR .nil pass0 (pa_cons (pe_op op_add (pv 2) pe_int) pa_nil)) (nomark _)))
          (pw_or1 (pt_cmpR op_ne (pe_callB call_len_seq (by rfl) B.len PySem.boot_len (pa_cons (pe_fld (pv 1) rfl) pa_nil)) (pe_op op_add (pv 2) pe_int) (nomark _))))) (pss_one (ps_ret pe_bl)) pss_nil)
        (pss_cons (ps_set (i := 6) nd rfl (.inl rfl) (pe_ix ix_list (pe_fld (pv 1) rfl) (pe_op op_add (pv 2) pe_int) (fun _ _ => rfl)))
        (pss_cons (ps_if (PW.pt (pw_or (pt_not (pt_val (pe_callB call_isi (by rfl) B.isinstance (by decide +kernel) (pa_cons (pv 6) (pa_cons (pe_gc (v := .ref cI) (by rfl) ⟨_, T.gI, rfl⟩) pa_nil)))))
          (pw_or (pt_not (pt_cmpR (op_eqRef V1.oQ GQ V1.bQ h1) (pe_fld (pv 6) rfl) (pe_make Si'.mR GR h2 (by rfl) T.gR Si'.bR .nil pass0 (pa_cons pe_int pa_nil)) (nomark _)))
          (pw_or1 (pt_cmpR (op_neD hr.units) (pe_callTy (call_list_dK rfl) (by rfl) B.list (by decide +kernel) (pa_cons (pe_fld (pv 6) rfl) pa_nil)) (pe_lst (pa_cons pe_str (pa_cons pe_str pa_nil))) (nomark _)))))) (pss_one (ps_ret pe_bl)) pss_nil)
        (pss_one (ps_if (PW.pt (pw_or (pt_cmpR op_ne (pe_dget hu (pe_fld (pv 6) rfl) pe_str (fun _ _ => rfl)) (pv 3) (nomark _)) (pw_or1 (pt_cmpR op_ne (pe_dget hu (pe_fld (pv 6) rfl) pe_str (fun _ _ => rfl)) (pv 4) (nomark _))))) (pss_one (ps_ret pe_bl)) pss_nil))))))))))
      (pss_one (ps_ret pe_bl))), ?_⟩
    refine ⟨Nat.zero_le _, fun l nl s dst ns' ndst nsd => ?_⟩
    have sl := same_upd (o := .lst []) nl
    have sm : Same (upd H l (.lst [])) (upd (upd (upd H l (.lst [])) dst (.own s)) s (.ins cS dst [])) := fun b ob e => by
      rw [upd_ne (ne_of_none e ns'), upd_ne (ne_of_none e ndst)]
      exact e
    refine ⟨s, dst, l, [], rfl, upd_same, sm.seq (K := K) (SqL.of upd_same), fun H1 t x0 k1 hS nt => ⟨rfl, ?_⟩⟩
    have s1 : Same (upd H l (.lst [])) H1 := Same.made ns' ndst k1
    have s01 := sl.trans s1
    have nt0 : H t = none := (sl.trans sm).free nt
    obtain ⟨px, pk, hp7, _, _⟩ := id st7
    have tp : t ≠ p := fun z => by rw [z, hp7] at nt0; cases nt0
    have E0 : EI K cS a p s t ns H H1 [.ref x0] := ⟨st7, My.Same.keep s01, st7.same s01, nt0, hS, tp⟩
    refine ⟨_, rfl, by decide, by decide, for_range (n := 3) (fun i σ H' => ∃ (y2 y3 y4 y5 y6 : Option V) (xs : List V), σ = [some (.ref p), some (.ref s), y2, y3, y4, y5, y6] ∧ EI K cS a p s t ns H H' xs ∧ xs.length = i + 1) ⟨none, none, none, none, none, _, rfl, E0, rfl⟩ ?_ ?_⟩
    · rintro i σ H2 hi ⟨y2, y3, y4, y5, y6, xs, rfl, E2, hxl⟩
      have ltu : ∀ {n : Nat}, n ≤ 3 → n ≤ sizeLine := fun h => Nat.le_trans h (by decide)
      refine ⟨_, rfl, ltu (by show 3 ≤ 3; decide), fun T1 nT1 => ?_⟩
      have E3 := E2.same (same_upd (o := .tup [.str "KindError", .str "x", .str ""]) nT1)
      refine ⟨a, p, T1, ns, _, rfl, E3.st, .inl (.inl upd_same), (by show 0 < 3; decide), (by show 3 ≤ 100; decide), fun H4 v hv k4 st4 => ?_⟩
      obtain ⟨z, hz, rfl⟩ : ∃ z, z ∈ (["KindError", "x", ""] : List Str) ∧ v = .str z := by
        simp only [List.mem_cons, List.not_mem_nil, or_false] at hv
        rcases hv with rfl | rfl | rfl
        · exact ⟨_, by simp, rfl⟩
        · exact ⟨_, by simp, rfl⟩
        · exact ⟨_, by simp, rfl⟩
      have E4 := E3.draw k4 st4
      refine ⟨_, rfl, a, p, ns, 2, rfl, E4.st, by decide, by decide, fun H5 r k5 st5 r0 r2 => ?_⟩
      have E5 := E4.draw k5 st5
      obtain ⟨hm, hl⟩ := mul_ok hz r0 r2
      refine ⟨_, _, rfl, rfl, z, 1 + r, rfl, rfl, hm, ?_⟩
      generalize Txt.mul z (1 + r) = kd at hl ⊢
      refine ⟨_, rfl, ltu (by show 3 ≤ 3; decide), fun T2 nT2 => ?_⟩
      have E6 := E5.same (same_upd (o := .tup [.str "", .str "no", .str "a b\n"]) nT2)
      refine ⟨a, p, T2, ns, _, rfl, E6.st, .inl (.inl upd_same), (by show 0 < 3; decide), (by show 3 ≤ 100; decide), fun H7 v hv k7 st7' => ?_⟩
      obtain ⟨me, hml, rfl⟩ : ∃ z : Str, z.length ≤ 100000 ∧ v = .str z := by
        simp only [List.mem_cons, List.not_mem_nil, or_false] at hv
        rcases hv with rfl | rfl | rfl
        · exact ⟨_, by decide +kernel, rfl⟩
        · exact ⟨_, by decide +kernel, rfl⟩
        · exact ⟨_, by decide +kernel, rfl⟩
      have E7 := E6.draw k7 st7'
      refine ⟨_, rfl, _, rfl, (by show 2 ≤ 1000; decide), fun ae nae => ⟨ae, .str kd, .str me, rfl, upd_same, ⟨_, rfl, hl⟩, ⟨_, rfl, hml⟩, fun d nd' hne => ⟨rfl, ?_⟩⟩⟩
      have sx : Same H7 (upd (upd (upd (upd H7 ae (exo ae cE none)) d (exd d [("kind", .str kd)])) ae (exo ae cE (some d))) d (exd d [("message", .str me), ("kind", .str kd)])) := fun b o e => by
        have n1 : b ≠ ae := ne_of_none e nae
        have n2 : b ≠ d := fun z => by
          rw [← z, upd_ne n1] at nd'
          rw [nd'] at e
          cases e
        rw [upd_ne n2, upd_ne n1, upd_ne n2, upd_ne n1]
        exact e
      have E8 := E7.same sx
      have X8 : ExAt (upd (upd (upd (upd H7 ae (exo ae cE none)) d (exd d [("kind", .str kd)])) ae (exo ae cE (some d))) d (exd d [("message", .str me), ("kind", .str kd)])) ae cE d (exF kd me) := ⟨by rw [upd_ne hne.symm]; exact upd_same, upd_same⟩
      generalize (upd (upd (upd (upd H7 ae (exo ae cE none)) d (exd d [("kind", .str kd)])) ae (exo ae cE (some d))) d (exd d [("message", .str me), ("kind", .str kd)])) = H8 at sx E8 X8 ⊢
      have dd : ∀ x : Str, decide (V.str x = V.str x) = true := fun x => decide_eq_true rfl
      refine ⟨_, rfl, ae, d, _, .ref cL, .ref cL, true, rfl, X8, fun u r => r, Z.kL, _, rfl, iteF ?_⟩
      refine ⟨_, rfl, ae, d, _, _, rfl, X8, exF_k, _, rfl, rfl, _, rfl, ifF (by rw [dd]; rfl) ?_⟩
      refine ⟨_, rfl, ae, d, _, _, rfl, X8, exF_m, _, rfl, rfl, _, rfl, ifF (by rw [dd]; rfl) ?_⟩
      have hk2 : ((0 : Int) + (i : Nat)) + 1 = ((xs.length : Nat) : Int) := by omega
      refine ⟨_, rfl, _, rfl, s, t, ae, d, xs, kd, me, rfl, E8.S, X8, by omega, fun H9 y x dx m r9 k9 ht9 hy9 hr9 hx9 hm9 => ?_⟩
      have E9 := E8.made k9 ht9
      refine ⟨_, rfl, _, _, rfl, rfl, ?_⟩
      intro r dr nr ndr ndrr
      refine ⟨r, dr, _, rfl, upd_same, fun H10 k10 hR10 => ⟨rfl, ?_⟩⟩
      have s10 := Same.made nr ndr k10
      have E10 := E9.same s10
      rw [hk2] at hR10
      refine ⟨y, r, _, _, rfl, rfl, hy9.same s10, hR10, _, rfl, ifF (by rw [show decide (((xs.length : Nat) : Int) = (xs.length : Nat)) = true from decide_eq_true rfl]; rfl) ?_⟩
      obtain ⟨⟨dsx, so, sl', hs1⟩, hs2⟩ := id E10.S
      refine ⟨_, rfl, s, cS, dsx, _, _, rfl, hs1, T.clS, T.nS_things, st_lk _ _ _, t, _, rfl, .inl (SqL.of hs2), _, rfl, _, _, rfl, rfl, rfl, _, rfl, ifF ?_ ?_⟩
      · have : (0 : Int) + (i : Nat) + 2 = (((xs ++ [V.ref x]).length : Nat) : Int) := by
          rw [List.length_append, List.length_singleton]
          omega
        show (!decide (V.int _ = V.int ((0 : Int) + (i : Nat) + 2))) = false
        rw [this]
        simp
      refine ⟨_, rfl, s, cS, dsx, _, _, rfl, hs1, T.clS, T.nS_things, st_lk _ _ _, _, rfl, _, _, rfl, rfl, t, _, _, .ref x, rfl, rfl, SqL.of hs2, ?_, ?_⟩
      · rw [hk2]
        exact atI_nat (by simp)
      have hx10 := s10 _ _ hx9
      have hm10 := s10 _ _ hm9
      refine ⟨_, rfl, _, .ref cI, _, .ref cI, true, rfl, .own _, T.tyI hx10, kit_self _, _, rfl, iteF ?_⟩
      refine ⟨_, rfl, x, cI, dx, _, _, rfl, hx10, T.clI, T.nI_owner, insF_owner, ?_⟩
      intro r2' dr2 nr2 ndr2 ndrr2
      refine ⟨r2', dr2, _, rfl, upd_same, fun H11 k11 hR11 => ⟨rfl, ?_⟩⟩
      have s11 := Same.made nr2 ndr2 k11
      refine ⟨r9, r2', _, _, rfl, rfl, (hr9.same s10).same s11, hR11, _, rfl, ifF rfl ?_⟩
      have hx11 := s11 _ _ hx10
      have hm11 := s11 _ _ hm10
      refine ⟨_, rfl, x, cI, dx, _, _, rfl, hx11, T.clI, T.nI_named, insF_named, m, _, rfl, hm11, fun l1 nl1 => ⟨ltu (by show 2 ≤ 3; decide), fun l2 nl2 => ?_⟩⟩
      have u1 := same_upd (o := .lst [.str "kind", .str "message"]) nl1
      have u2 := same_upd (o := .lst [.str "kind", .str "message"]) nl2
      refine ⟨kmD, kmD, km_dp (u2 _ _ upd_same), km_dp upd_same, by decide +kernel, by decide +kernel, _, rfl, ifF (by decide +kernel) ?_⟩
      have hx12 := u2 _ _ (u1 _ _ hx11)
      have hm12 := u2 _ _ (u1 _ _ hm11)
      have E12 := ((E10.same s11).same u1).same u2
      have v1 : valV (kd2 (.str kd) (.str me)) (Sum.inr "kind") = some (.str kd) := rfl
      have v2 : valV (kd2 (.str kd) (.str me)) (Sum.inr "message") = some (.str me) := rfl
      refine ⟨_, rfl, x, cI, dx, _, _, rfl, hx12, T.clI, T.nI_named, insF_named, m, _, rfl, v1 ▸ DGet.k (k := Sum.inr "kind") hm12, _, rfl, rfl, _, rfl, ifF (by rw [dd]; rfl) ?_⟩
      refine ⟨_, rfl, x, cI, dx, _, _, rfl, hx12, T.clI, T.nI_named, insF_named, m, _, rfl, v2 ▸ DGet.k (k := Sum.inr "message") hm12, _, rfl, rfl, _, rfl, ifF (by rw [dd]; rfl) ?_⟩
      exact ⟨_, _, _, _, _, _, rfl, E12, by rw [List.length_append, List.length_singleton, hxl]⟩
    · rintro σ H2 ⟨y2, y3, y4, y5, y6, xs, rfl, E2, hxl⟩
      exact q H2
end
end My
namespace My
open PySem L2 SX XT XS XE
open C8 (pss_cut tCut cutS_slice pe_gc)
section
variable {P : Program} {w : World} {K : PySem.W.Frag} {mg : Str → Option Value} {base : Heap}
variable {cT kT fH fV fP fT fA' pM fM' lS lA lC lB lD lP fTI lQ lU lE : Addr} {uT gH gV gP gT gA' gM' hS hA hC hB hD hP gTI hQ hU hE : FuncData}
abbrev sLaw : Stmt := top 30
theorem scLaw : FnScope ["script", "state", "table", "rows", "k"] ["script"] (defScope sLaw) := ⟨rfl, rfl, rfl, by decide +kernel, rfl, by decide +kernel, by decide +kernel⟩
def spLaw (K : PySem.W.Frag) : Sp := fun vs H Q _ => ∃ (a : Addr) (ns : List Int), vs = [.ref a] ∧ SqL K H a (ns.map V.int) ∧ ns.length ≤ 63 ∧ ∀ H', Q (.bl true) H'
theorem ok_law {f : Addr} {fd : FuncData} (F : Fun K "law" "law" sLaw f fd) (B : Bl mg) (bt : mg "tuple" = none) (T : Ta K mg cT kT fH fV fP fT fA' pM fM' uT gH gV gP gT gA' gM') (mT : Mk K cT fTI) (FI : Fun K "__init__" "Table.__init__" sTI fTI gTI) (bI : Binds K gTI ["self"] []) (gTb : mg "Table" = some (.ref cT))
    (L : Lx K mg lC lB lD lP hC hB hD hP) (FS : Fun K "_law_same" "_law_same" sLSame lS hS) (bS : Binds K hS ["x", "y"] []) (gS : mg "_law_same" = some (.ref lS))
    (FA : Fun K "_law_at" "_law_at" sLAt lA hA) (bA : Binds K hA ["rows", "key"] []) (gA'' : mg "_law_at" = some (.ref lA))
    (FQ : Fun K "_law_equal" "_law_equal" sLEq lQ hQ) (bQ : Binds K hQ ["table", "rows"] []) (gQ : mg "_law_equal" = some (.ref lQ))
    (FU : Fun K "_law_deed" "_law_deed" sDeed lU hU) (bU : Binds K hU ["state", "table", "rows"] []) (gU : mg "_law_deed" = some (.ref lU))
    (FE : Fun K "_law_error" "_law_error" sLErr lE hE) (bE : Binds K hE ["state"] []) (gE : mg "_law_error" = some (.ref lE)) (GE : FnOk P w K mg base CX0 6 lE hE ["state"] (spLErr K)) : FnOk P w K mg base CX0 7 f fd ["script"] (spLaw K) := by
  have GB : FnOk P w K mg base CX0 1 lB hB ["script", "k"] (spBegin K) := ok_begin L.fB
  have GI : FnOk P w K mg base CX0 1 fTI gTI ["self"] (spTI P w cT) := ok_TI FI T.C
  have GQ : FnOk P w K mg base CX0 3 lQ hQ ["table", "rows"] (spLEq P w cT) := ok_leq FQ B bt T FS bS gS
  have GU : FnOk P w K mg base CX0 4 lU hU ["state", "table", "rows"] (spDeed P w K cT) := ok_deed FU B T L FS bS gS FA bA gA''
  refine F.ok scLaw (fun vs H Q E h => ?_) (fun cdv A outer s H vs Q E hr h => ?_)
  · obtain ⟨a, ns, rfl, _⟩ := h
    rfl
  · obtain ⟨a, ns, rfl, hS', hlen, q⟩ := h
    have nd := scLaw.nd
    refine ⟨_, pss_cons (ps_set (i := 1) nd rfl (.inl rfl) (pe_call GB (hr.mono (by decide)) (by rfl) L.gB L.fB.kp L.bB .nil pass0 (pa_cons (pv 0) (pa_cons pe_int pa_nil))))
      (pss_cons (ps_set (i := 2) nd rfl (.inl rfl) (pe_make0 mT GI (hr.mono (by decide)) (by rfl) gTb bI .nil pass0))
      (pss_cons (ps_set (i := 3) nd rfl (.inl rfl) (pe_lst pa_nil))
      (pss_cons (ps_for PassesOwn.never rfl (pi_range1 (by rfl) B.range (pa_cons (pe_callB (call_min2 rfl) (by rfl) B.min (by decide +kernel) (pa_cons pe_int (pa_cons (pe_callB (call_max2 rfl) (by rfl) B.max (by decide +kernel) (pa_cons pe_int (pa_cons (pe_callB call_len_seq (by rfl) B.len PySem.boot_len (pa_cons (pv 0) pa_nil)) pa_nil))) pa_nil))) pa_nil)) (pg_name (i := 4) nd rfl (.inl rfl))
        (pss_one (ps_if (PW.pt (pw_or (pt_not (pt_val (pe_call GU (hr.mono (by decide)) (by rfl) gU FU.kp bU .nil pass0 (pa_cons (pv 1) (pa_cons (pv 2) (pa_cons (pv 3) pa_nil)))))) (pw_or1 (pt_not (pt_val (pe_call GQ (hr.mono (by decide)) (by rfl) gQ FQ.kp bQ .nil pass0 (pa_cons (pv 2) (pa_cons (pv 3) pa_nil)))))))) (pss_one (ps_ret pe_bl)) pss_nil)))
      (pss_one (ps_ret (pe_call GE hr (by rfl) gE FE.kp bE .nil pass0 (pa_cons (pv 1) pa_nil))))))), ?_⟩
    refine ⟨_, rfl, a, ns, 0, rfl, hS', by decide, fun H1 p np s1 st1 => ?_⟩
    intro t dt nt ndt ndtt
    refine ⟨t, dt, rfl, upd_same, fun H2 d k2 nd2 tb => ⟨rfl, ?_⟩⟩
    have s2 := Same.made nt ndt k2
    have nd1 : H1 d = none := by
      by_cases h1 : d = t
      · rw [h1]; exact nt
      · by_cases h2 : d = dt
        · rw [h2]; exact ndt
        · rw [upd_ne h1, upd_ne h2] at nd2; exact nd2
    refine ⟨Nat.zero_le _, fun R nR => ?_⟩
    have s3 := same_upd (o := .lst []) nR
    have s13 := s2.trans s3
    obtain ⟨x, kx, hp1, _, _⟩ := id st1
    have hp3 := s13 _ _ hp1
    have W0 : Lw P w K cT a p t R ns H1 (upd H2 R (.lst [])) d [] [] [] :=
      ⟨st1, My.Same.keep s13, st1.same s13, s2.free nR, nd1, TblAt.same s3 tb, ⟨trivial, rfl, List.nodup_nil⟩, upd_same, trivial, fun z => by rw [z] at nR; rw [s2 _ _ hp1] at nR; cases nR⟩
    refine ⟨_, rfl, a, _, rfl, .inl (s13.seq (s1.seq hS')), _, _, rfl, _, _, rfl, _, rfl, ?_, ?_, for_range (fun i σ H' => ∃ (y4 : Option V) (es : List Ent) (ws : List V) (rs : List Rw), σ = [some (.ref a), some (.ref p), some (.ref t), some (.ref R), y4] ∧ Lw P w K cT a p t R ns H1 H' d es ws rs ∧ rs.length ≤ i) ⟨none, [], [], [], rfl, W0, Nat.zero_le _⟩ ?_ ?_⟩
    · split <;> (try split) <;> (try split) <;> omega
    · have hl : (List.map V.int ns).length = ns.length := List.length_map _
      split <;> (try split) <;> (try split) <;> omega
    · rintro i σ H3 hi ⟨y4, es, ws, rs, rfl, W, hl⟩
      have hi2 : i < 900 := by
        have hl : (List.map V.int ns).length = ns.length := List.length_map _
        revert hi
        simp only [hl]
        intro hi
        have : ∀ n : Int, (i : Int) < n → n ≤ 63 → i < 900 := fun n h1 h2 => by omega
        (repeat' split at hi) <;> omega
      refine ⟨_, rfl, _, rfl, _, rfl, a, p, t, R, d, ns, H1, es, ws, rs, rfl, W, by omega, fun H4 es4 ws4 rs4 W4 hl4 => ⟨_, rfl, iteF ?_⟩⟩
      refine ⟨_, rfl, _, rfl, t, d, R, es4, ws4, rs4, rfl, W4.tb, W4.eq, W4.hR, W4.rw_, by omega, fun H5 s5 => ⟨_, rfl, iteF ⟨_, es4, ws4, rs4, rfl, W4.same s5, by omega⟩⟩⟩
    · rintro σ H3 ⟨y4, es, ws, rs, rfl, W, hl⟩
      exact ⟨_, rfl, a, p, ns, rfl, W.st, q⟩
end
end My
namespace My
open PySem L2 SX XT XS XE
theorem all_mk {l : PySem.W.OpenLaw} {w : World} {K : PySem.W.Frag} {h : Heap} {mg : Str → Option Value} {fa cT cK cI cR cS cE fE cdaE ccE cL tag fTI fTH fTV fTP fTT fTA fTM pTM fKI fII fRI fRE fSI fSM fSA CS SF ME MF lC lB lD lP lS lA lQ lU lE fL : Addr} (X : K.In h) (G : h.Ns mainGlobals mg) (hfa : mg "law" = some (.ref fa))
    {nmE qE flE : Str}
    {NE : Addr}
    {bsE subE rsTM : List Value}
    {snE : List Str}
    {abE : Bool}
    {colE : Option Bool}
    {ddE odE anE cddE cldE odtag antag odTI anTI odTH anTH odTV anTV odTP anTP odTT anTT odTA anTA odTM anTM odKI anKI odII anII odRI anRI odRE anRE odSI anSI odSM anSM odSA anSA odCS anCS odSF anSF odME anME odMF anMF odlC anlC odlB anlB odlD anlD odlP anlP odlS anlS odlA anlA odlQ anlQ odlU anlU odlE anlE odlaw anlaw : Option Addr}
    {m0E m1E m2E m3E m5E : Option Value}
    {slE ccsE cslE sltag slTI slTH slTV slTP slTT slTA slTM slKI slII slRI slRE slSI slSM slSA slCS slSF slME slMF sllC sllB sllD sllP sllS sllA sllQ sllU sllE sllaw : Array (Option Value)}
    {ocE kVE dcE pmE ctE cclE cl_E octag kVtag dctag pmtag cdtag cttag ocTI kVTI dcTI pmTI cdTI ctTI ocTH kVTH dcTH pmTH cdTH ctTH ocTV kVTV dcTV pmTV cdTV ctTV ocTP kVTP dcTP pmTP cdTP ctTP ocTT kVTT dcTT pmTT cdTT ctTT ocTA kVTA dcTA pmTA cdTA ctTA ocTM kVTM dcTM pmTM cdTM ctTM ocKI kVKI dcKI pmKI cdKI ctKI ocII kVII dcII pmII cdII ctII ocRI kVRI dcRI pmRI cdRI ctRI ocRE kVRE dcRE pmRE cdRE ctRE ocSI kVSI dcSI pmSI cdSI ctSI ocSM kVSM dcSM pmSM cdSM ctSM ocSA kVSA dcSA pmSA cdSA ctSA ocCS kVCS dcCS pmCS cdCS ctCS ocSF kVSF dcSF pmSF cdSF ctSF ocME kVME dcME pmME cdME ctME ocMF kVMF dcMF pmMF cdMF ctMF oclC kVlC dclC pmlC cdlC ctlC oclB kVlB dclB pmlB cdlB ctlB oclD kVlD dclD pmlD cdlD ctlD oclP kVlP dclP pmlP cdlP ctlP oclS kVlS dclS pmlS cdlS ctlS oclA kVlA dclA pmlA cdlA ctlA oclQ kVlQ dclQ pmlQ cdlQ ctlQ oclU kVlU dclU pmlU cdlU ctlU oclE kVlE dclE pmlE cdlE ctlE oclaw kVlaw dclaw pmlaw cdlaw ctlaw : Value}
    {cvsE : Array Value}
    {tfE tkMH : Tok}
    (uT : PySem.W.nsIn K mainGlobals "Table" = some (some (.ref cT)))
    (mkT : PySem.W.makesIn K cT = true)
    (kcT : PySem.W.keepIn K (.ref cT) = true)
    (pgT : PySem.W.plainGet K cT Str.empty = true)
    (hdT : PySem.W.hasDictIn K cT = true)
    (poT : PySem.W.plainOver K cT = true)
    (saT : PySem.W.findIn K (.ref cT) "__setattr__" = some (some (.builtin "object.__setattr__")))
    (nT__entries : PySem.W.findIn K (.ref cT) "_entries" = some none)
    (uK : PySem.W.nsIn K mainGlobals "Kin" = some (some (.ref cK)))
    (mkK : PySem.W.makesIn K cK = true)
    (kcK : PySem.W.keepIn K (.ref cK) = true)
    (pgK : PySem.W.plainGet K cK Str.empty = true)
    (hdK : PySem.W.hasDictIn K cK = true)
    (poK : PySem.W.plainOver K cK = true)
    (saK : PySem.W.findIn K (.ref cK) "__setattr__" = some (some (.builtin "object.__setattr__")))
    (nK_name : PySem.W.findIn K (.ref cK) "name" = some none)
    (nK_parent : PySem.W.findIn K (.ref cK) "parent" = some none)
    (nK_methods : PySem.W.findIn K (.ref cK) "methods" = some none)
    (uI : PySem.W.nsIn K mainGlobals "Instance" = some (some (.ref cI)))
    (mkI : PySem.W.makesIn K cI = true)
    (kcI : PySem.W.keepIn K (.ref cI) = true)
    (pgI : PySem.W.plainGet K cI Str.empty = true)
    (hdI : PySem.W.hasDictIn K cI = true)
    (poI : PySem.W.plainOver K cI = true)
    (saI : PySem.W.findIn K (.ref cI) "__setattr__" = some (some (.builtin "object.__setattr__")))
    (nI_owner : PySem.W.findIn K (.ref cI) "owner" = some none)
    (nI_named : PySem.W.findIn K (.ref cI) "named" = some none)
    (hnTy : PySem.W.specialIn K (.builtin "object.__class__") "__get__" = some (some (.builtin "getset_descriptor.__get__")))
    (htTy : PySem.W.takesIn K (.builtin "object.__class__") = some true)
    (haI : PySem.W.findIn K (.ref cI) "__class__" = some (some (.builtin "object.__class__")))
    (hmI : PySem.W.mroIn K cI (.type "object") = some true)
    (uR : PySem.W.nsIn K mainGlobals "Ref" = some (some (.ref cR)))
    (mkR : PySem.W.makesIn K cR = true)
    (kcR : PySem.W.keepIn K (.ref cR) = true)
    (pgR : PySem.W.plainGet K cR Str.empty = true)
    (hdR : PySem.W.hasDictIn K cR = true)
    (poR : PySem.W.plainOver K cR = true)
    (saR : PySem.W.findIn K (.ref cR) "__setattr__" = some (some (.builtin "object.__setattr__")))
    (nR_number : PySem.W.findIn K (.ref cR) "number" = some none)
    (haR : PySem.W.findIn K (.ref cR) "__class__" = some (some (.builtin "object.__class__")))
    (hmR : PySem.W.mroIn K cR (.type "object") = some true)
    (uS : PySem.W.nsIn K mainGlobals "Store" = some (some (.ref cS)))
    (mkS : PySem.W.makesIn K cS = true)
    (kcS : PySem.W.keepIn K (.ref cS) = true)
    (pgS : PySem.W.plainGet K cS Str.empty = true)
    (hdS : PySem.W.hasDictIn K cS = true)
    (poS : PySem.W.plainOver K cS = true)
    (saS : PySem.W.findIn K (.ref cS) "__setattr__" = some (some (.builtin "object.__setattr__")))
    (nS_things : PySem.W.findIn K (.ref cS) "things" = some none)
    (nS_output : PySem.W.findIn K (.ref cS) "output" = some none)
    (nS_lines : PySem.W.findIn K (.ref cS) "lines" = some none)
    (nS_taken : PySem.W.findIn K (.ref cS) "taken" = some none)
    (uE : PySem.W.nsIn K mainGlobals "ScriptError" = some (some (.ref cE)))
    (xE : K.lookup cE = some (excClassObj nmE qE cE NE bsE [.ref cL, .type "ValueError", .type "Exception", .type "BaseException", .type "object"] true snE subE abE colE ddE m0E m1E m2E m3E m5E "ValueError.__new__"))
    (saE : PySem.W.findIn K (.ref cE) "__setattr__" = some (some (.builtin "object.__setattr__")))
    (exE : PySem.W.subIn K (.ref cE) (.type "BaseException") = some true)
    (tpE : PySem.W.typeIn K (.ref cE) = some (.type "type"))
    (kpE : PySem.W.keepIn K (.ref cE) = true)
    (n1E : PySem.W.findIn K (.ref cE) "kind" = some none)
    (n2E : PySem.W.findIn K (.ref cE) "message" = some none)
    (iE : PySem.W.findIn K (.ref cE) "__init__" = some (some (.ref fE)))
    (tiE : PySem.W.typeIn K (.ref fE) = some (.type "function"))
    (gaE : PySem.W.findIn K (.ref cE) "__getattribute__" = some (some (.builtin "BaseException.__getattribute__")))
    (ggE : PySem.W.findIn K (.ref cE) "__getattr__" = some none)
    (hdE : PySem.W.hasDictIn K cE = true)
    (ssE : PySem.W.subIn K (.ref cE) (.ref cE) = some true)
    (liE : K.lookup fE = some ⟨ocE, odE, .func (PySem.W.ksFn "__init__" "ScriptError.__init__" (defArgs sSE) (defBody sSE) (defScope sSE) .none kVE dcE pmE anE (.ref cdaE) ctE ccE), slE⟩)
    (ciE : PySem.W.codeIn K (.ref cdaE) "ScriptError.__init__" = true)
    (coE : K.lookup cdaE = some ⟨cclE, cddE, .fields cvsE, ccsE⟩)
    (cvE : cvsE[2]? = some (.str flE tfE))
    (fiE : ((l.prog.main.file : Str) == flE) = true)
    (ceE : K.lookup ccE = some ⟨cl_E, cldE, .cell (some (.ref cE)), cslE⟩)
    (toSup : (l.prog.main.scope.names.lookup ("super" : Str)).isSome = false)
    (suSup : PySem.W.nsIn K mainGlobals "super" = some none)
    (opSup : PySem.W.nsIn K PySem.cStatics "thirdparty.any" = some none)
    (mrE : PySem.W.mroIn K cE (.ref cE) = some true)
    (ksE : PySem.W.ks_superIn K cE cE "__init__" = some (some (.builtin "ValueError.__init__")))
    (vaE : PySem.W.subIn K (.ref cE) (.type "ValueError") = some true)
    (haE : PySem.W.findIn K (.ref cE) "__class__" = some (some (.builtin "object.__class__")))
    (hmE : PySem.W.mroIn K cE (.type "object") = some true)
    (uL : PySem.W.nsIn K mainGlobals "LivequillError" = some (some (.ref cL)))
    (klEL : PySem.W.kitOne K (.ref cE) (.ref cL) = some true)
    (atag : PySem.W.nsIn K mainGlobals "tagged" = some (some (.ref tag)))
    (ltag : K.lookup tag = some ⟨octag, odtag, .func (PySem.W.fnOf "tagged" "tagged" (defArgs sTagged) (defBody sTagged) (defScope sTagged) .none kVtag dctag pmtag antag cdtag cttag), sltag⟩)
    (ctag : PySem.W.codeIn K cdtag "tagged" = true)
    (ktag : PySem.W.keepIn K (.ref tag) = true)
    (aTI : PySem.W.findIn K (.ref cT) "__init__" = some (some (.ref fTI)))
    (iTI : PySem.W.isFn K (.ref fTI) = true)
    (lTI : K.lookup fTI = some ⟨ocTI, odTI, .func (PySem.W.fnOf "__init__" "Table.__init__" (defArgs sTI) (defBody sTI) (defScope sTI) .none kVTI dcTI pmTI anTI cdTI ctTI), slTI⟩)
    (cTI : PySem.W.codeIn K cdTI "Table.__init__" = true)
    (kTI : PySem.W.keepIn K (.ref fTI) = true)
    (aTH : PySem.W.findIn K (.ref cT) "has" = some (some (.ref fTH)))
    (iTH : PySem.W.isFn K (.ref fTH) = true)
    (lTH : K.lookup fTH = some ⟨ocTH, odTH, .func (PySem.W.fnOf "has" "Table.has" (defArgs sTHas) (defBody sTHas) (defScope sTHas) .none kVTH dcTH pmTH anTH cdTH ctTH), slTH⟩)
    (cTH : PySem.W.codeIn K cdTH "Table.has" = true)
    (kTH : PySem.W.keepIn K (.ref fTH) = true)
    (aTV : PySem.W.findIn K (.ref cT) "value_of" = some (some (.ref fTV)))
    (iTV : PySem.W.isFn K (.ref fTV) = true)
    (lTV : K.lookup fTV = some ⟨ocTV, odTV, .func (PySem.W.fnOf "value_of" "Table.value_of" (defArgs sTValue) (defBody sTValue) (defScope sTValue) .none kVTV dcTV pmTV anTV cdTV ctTV), slTV⟩)
    (cTV : PySem.W.codeIn K cdTV "Table.value_of" = true)
    (kTV : PySem.W.keepIn K (.ref fTV) = true)
    (aTP : PySem.W.findIn K (.ref cT) "put" = some (some (.ref fTP)))
    (iTP : PySem.W.isFn K (.ref fTP) = true)
    (lTP : K.lookup fTP = some ⟨ocTP, odTP, .func (PySem.W.fnOf "put" "Table.put" (defArgs sTPut) (defBody sTPut) (defScope sTPut) .none kVTP dcTP pmTP anTP cdTP ctTP), slTP⟩)
    (cTP : PySem.W.codeIn K cdTP "Table.put" = true)
    (kTP : PySem.W.keepIn K (.ref fTP) = true)
    (aTT : PySem.W.findIn K (.ref cT) "take_out" = some (some (.ref fTT)))
    (iTT : PySem.W.isFn K (.ref fTT) = true)
    (lTT : K.lookup fTT = some ⟨ocTT, odTT, .func (PySem.W.fnOf "take_out" "Table.take_out" (defArgs sTTake) (defBody sTTake) (defScope sTTake) .none kVTT dcTT pmTT anTT cdTT ctTT), slTT⟩)
    (cTT : PySem.W.codeIn K cdTT "Table.take_out" = true)
    (kTT : PySem.W.keepIn K (.ref fTT) = true)
    (aTA : PySem.W.findIn K (.ref cT) "pairs" = some (some (.ref fTA)))
    (iTA : PySem.W.isFn K (.ref fTA) = true)
    (lTA : K.lookup fTA = some ⟨ocTA, odTA, .func (PySem.W.fnOf "pairs" "Table.pairs" (defArgs sTPairs) (defBody sTPairs) (defScope sTPairs) .none kVTA dcTA pmTA anTA cdTA ctTA), slTA⟩)
    (cTA : PySem.W.codeIn K cdTA "Table.pairs" = true)
    (kTA : PySem.W.keepIn K (.ref fTA) = true)
    (aTM : PySem.W.findIn K (.ref cT) "many" = some (some (.ref pTM)))
    (pgtTM : PySem.W.specialIn K (.ref pTM) "__get__" = some (some (.builtin "property.__get__")))
    (ptkTM : PySem.W.takesIn K (.ref pTM) = some true)
    (prcTM : PySem.W.recIn K pTM "property" = some (.ref fTM :: rsTM))
    (lTM : K.lookup fTM = some ⟨ocTM, odTM, .func (PySem.W.fnOf "many" "Table.many" (defArgs sTMany) (defBody sTMany) (defScope sTMany) .none kVTM dcTM pmTM anTM cdTM ctTM), slTM⟩)
    (cTM : PySem.W.codeIn K cdTM "Table.many" = true)
    (kTM : PySem.W.keepIn K (.ref fTM) = true)
    (aKI : PySem.W.findIn K (.ref cK) "__init__" = some (some (.ref fKI)))
    (iKI : PySem.W.isFn K (.ref fKI) = true)
    (lKI : K.lookup fKI = some ⟨ocKI, odKI, .func (PySem.W.fnOf "__init__" "Kin.__init__" (defArgs sIK) (defBody sIK) (defScope sIK) .none kVKI dcKI pmKI anKI cdKI ctKI), slKI⟩)
    (cKI : PySem.W.codeIn K cdKI "Kin.__init__" = true)
    (kKI : PySem.W.keepIn K (.ref fKI) = true)
    (aII : PySem.W.findIn K (.ref cI) "__init__" = some (some (.ref fII)))
    (iII : PySem.W.isFn K (.ref fII) = true)
    (lII : K.lookup fII = some ⟨ocII, odII, .func (PySem.W.fnOf "__init__" "Instance.__init__" (defArgs sII) (defBody sII) (defScope sII) .none kVII dcII pmII anII cdII ctII), slII⟩)
    (cII : PySem.W.codeIn K cdII "Instance.__init__" = true)
    (kII : PySem.W.keepIn K (.ref fII) = true)
    (aRI : PySem.W.findIn K (.ref cR) "__init__" = some (some (.ref fRI)))
    (iRI : PySem.W.isFn K (.ref fRI) = true)
    (lRI : K.lookup fRI = some ⟨ocRI, odRI, .func (PySem.W.fnOf "__init__" "Ref.__init__" (defArgs sIR) (defBody sIR) (defScope sIR) .none kVRI dcRI pmRI anRI cdRI ctRI), slRI⟩)
    (cRI : PySem.W.codeIn K cdRI "Ref.__init__" = true)
    (kRI : PySem.W.keepIn K (.ref fRI) = true)
    (aRE : PySem.W.findIn K (.ref cR) "__eq__" = some (some (.ref fRE)))
    (iRE : PySem.W.isFn K (.ref fRE) = true)
    (lRE : K.lookup fRE = some ⟨ocRE, odRE, .func (PySem.W.fnOf "__eq__" "Ref.__eq__" (defArgs sER) (defBody sER) (defScope sER) .none kVRE dcRE pmRE anRE cdRE ctRE), slRE⟩)
    (cRE : PySem.W.codeIn K cdRE "Ref.__eq__" = true)
    (kRE : PySem.W.keepIn K (.ref fRE) = true)
    (aSI : PySem.W.findIn K (.ref cS) "__init__" = some (some (.ref fSI)))
    (iSI : PySem.W.isFn K (.ref fSI) = true)
    (lSI : K.lookup fSI = some ⟨ocSI, odSI, .func (PySem.W.fnOf "__init__" "Store.__init__" (defArgs sIS) (defBody sIS) (defScope sIS) .none kVSI dcSI pmSI anSI cdSI ctSI), slSI⟩)
    (cSI : PySem.W.codeIn K cdSI "Store.__init__" = true)
    (kSI : PySem.W.keepIn K (.ref fSI) = true)
    (aSM : PySem.W.findIn K (.ref cS) "make" = some (some (.ref fSM)))
    (iSM : PySem.W.isFn K (.ref fSM) = true)
    (lSM : K.lookup fSM = some ⟨ocSM, odSM, .func (PySem.W.fnOf "make" "Store.make" (defArgs sSM) (defBody sSM) (defScope sSM) .none kVSM dcSM pmSM anSM cdSM ctSM), slSM⟩)
    (cSM : PySem.W.codeIn K cdSM "Store.make" = true)
    (kSM : PySem.W.keepIn K (.ref fSM) = true)
    (aSA : PySem.W.findIn K (.ref cS) "at" = some (some (.ref fSA)))
    (iSA : PySem.W.isFn K (.ref fSA) = true)
    (lSA : K.lookup fSA = some ⟨ocSA, odSA, .func (PySem.W.fnOf "at" "Store.at" (defArgs sSA) (defBody sSA) (defScope sSA) .none kVSA dcSA pmSA anSA cdSA ctSA), slSA⟩)
    (cSA : PySem.W.codeIn K cdSA "Store.at" = true)
    (kSA : PySem.W.keepIn K (.ref fSA) = true)
    (aCS : PySem.W.nsIn K mainGlobals "check_size" = some (some (.ref CS)))
    (lCS : K.lookup CS = some ⟨ocCS, odCS, .func (PySem.W.fnOf "check_size" "check_size" (defArgs sCS) (defBody sCS) (defScope sCS) .none kVCS dcCS pmCS anCS cdCS ctCS), slCS⟩)
    (cCS : PySem.W.codeIn K cdCS "check_size" = true)
    (kCS : PySem.W.keepIn K (.ref CS) = true)
    (aSF : PySem.W.nsIn K mainGlobals "set_fields" = some (some (.ref SF)))
    (lSF : K.lookup SF = some ⟨ocSF, odSF, .func (PySem.W.fnOf "set_fields" "set_fields" (defArgs sSF) (defBody sSF) (defScope sSF) .none kVSF dcSF pmSF anSF cdSF ctSF), slSF⟩)
    (cSF : PySem.W.codeIn K cdSF "set_fields" = true)
    (kSF : PySem.W.keepIn K (.ref SF) = true)
    (aME : PySem.W.nsIn K mainGlobals "make_error" = some (some (.ref ME)))
    (lME : K.lookup ME = some ⟨ocME, odME, .func (PySem.W.fnOf "make_error" "make_error" (defArgs sME) (defBody sME) (defScope sME) .none kVME dcME pmME anME cdME ctME), slME⟩)
    (cME : PySem.W.codeIn K cdME "make_error" = true)
    (kME : PySem.W.keepIn K (.ref ME) = true)
    (aMF : PySem.W.nsIn K mainGlobals "make_failure" = some (some (.ref MF)))
    (lMF : K.lookup MF = some ⟨ocMF, odMF, .func (PySem.W.fnOf "make_failure" "make_failure" (defArgs sMF) (defBody sMF) (defScope sMF) .none kVMF dcMF pmMF anMF cdMF ctMF), slMF⟩)
    (cMF : PySem.W.codeIn K cdMF "make_failure" = true)
    (kMF : PySem.W.keepIn K (.ref MF) = true)
    (alC : PySem.W.nsIn K mainGlobals "_law_cell" = some (some (.ref lC)))
    (llC : K.lookup lC = some ⟨oclC, odlC, .func (PySem.W.fnOf "_law_cell" "_law_cell" (defArgs sCell) (defBody sCell) (defScope sCell) .none kVlC dclC pmlC anlC cdlC ctlC), sllC⟩)
    (clC : PySem.W.codeIn K cdlC "_law_cell" = true)
    (klC : PySem.W.keepIn K (.ref lC) = true)
    (alB : PySem.W.nsIn K mainGlobals "_law_begin" = some (some (.ref lB)))
    (llB : K.lookup lB = some ⟨oclB, odlB, .func (PySem.W.fnOf "_law_begin" "_law_begin" (defArgs sBegin) (defBody sBegin) (defScope sBegin) .none kVlB dclB pmlB anlB cdlB ctlB), sllB⟩)
    (clB : PySem.W.codeIn K cdlB "_law_begin" = true)
    (klB : PySem.W.keepIn K (.ref lB) = true)
    (alD : PySem.W.nsIn K mainGlobals "_law_draw" = some (some (.ref lD)))
    (llD : K.lookup lD = some ⟨oclD, odlD, .func (PySem.W.fnOf "_law_draw" "_law_draw" (defArgs sDraw) (defBody sDraw) (defScope sDraw) .none kVlD dclD pmlD anlD cdlD ctlD), sllD⟩)
    (clD : PySem.W.codeIn K cdlD "_law_draw" = true)
    (klD : PySem.W.keepIn K (.ref lD) = true)
    (alP : PySem.W.nsIn K mainGlobals "_law_pick" = some (some (.ref lP)))
    (llP : K.lookup lP = some ⟨oclP, odlP, .func (PySem.W.fnOf "_law_pick" "_law_pick" (defArgs sPick) (defBody sPick) (defScope sPick) .none kVlP dclP pmlP anlP cdlP ctlP), sllP⟩)
    (clP : PySem.W.codeIn K cdlP "_law_pick" = true)
    (klP : PySem.W.keepIn K (.ref lP) = true)
    (alS : PySem.W.nsIn K mainGlobals "_law_same" = some (some (.ref lS)))
    (llS : K.lookup lS = some ⟨oclS, odlS, .func (PySem.W.fnOf "_law_same" "_law_same" (defArgs sLSame) (defBody sLSame) (defScope sLSame) .none kVlS dclS pmlS anlS cdlS ctlS), sllS⟩)
    (clS : PySem.W.codeIn K cdlS "_law_same" = true)
    (klS : PySem.W.keepIn K (.ref lS) = true)
    (alA : PySem.W.nsIn K mainGlobals "_law_at" = some (some (.ref lA)))
    (llA : K.lookup lA = some ⟨oclA, odlA, .func (PySem.W.fnOf "_law_at" "_law_at" (defArgs sLAt) (defBody sLAt) (defScope sLAt) .none kVlA dclA pmlA anlA cdlA ctlA), sllA⟩)
    (clA : PySem.W.codeIn K cdlA "_law_at" = true)
    (klA : PySem.W.keepIn K (.ref lA) = true)
    (alQ : PySem.W.nsIn K mainGlobals "_law_equal" = some (some (.ref lQ)))
    (llQ : K.lookup lQ = some ⟨oclQ, odlQ, .func (PySem.W.fnOf "_law_equal" "_law_equal" (defArgs sLEq) (defBody sLEq) (defScope sLEq) .none kVlQ dclQ pmlQ anlQ cdlQ ctlQ), sllQ⟩)
    (clQ : PySem.W.codeIn K cdlQ "_law_equal" = true)
    (klQ : PySem.W.keepIn K (.ref lQ) = true)
    (alU : PySem.W.nsIn K mainGlobals "_law_deed" = some (some (.ref lU)))
    (llU : K.lookup lU = some ⟨oclU, odlU, .func (PySem.W.fnOf "_law_deed" "_law_deed" (defArgs sDeed) (defBody sDeed) (defScope sDeed) .none kVlU dclU pmlU anlU cdlU ctlU), sllU⟩)
    (clU : PySem.W.codeIn K cdlU "_law_deed" = true)
    (klU : PySem.W.keepIn K (.ref lU) = true)
    (alE : PySem.W.nsIn K mainGlobals "_law_error" = some (some (.ref lE)))
    (llE : K.lookup lE = some ⟨oclE, odlE, .func (PySem.W.fnOf "_law_error" "_law_error" (defArgs sLErr) (defBody sLErr) (defScope sLErr) .none kVlE dclE pmlE anlE cdlE ctlE), sllE⟩)
    (clE : PySem.W.codeIn K cdlE "_law_error" = true)
    (klE : PySem.W.keepIn K (.ref lE) = true)
    (alaw : PySem.W.nsIn K mainGlobals "law" = some (some (.ref fL)))
    (llaw : K.lookup fL = some ⟨oclaw, odlaw, .func (PySem.W.fnOf "law" "law" (defArgs sLaw) (defBody sLaw) (defScope sLaw) .none kVlaw dclaw pmlaw anlaw cdlaw ctlaw), sllaw⟩)
    (claw : PySem.W.codeIn K cdlaw "law" = true)
    (klaw : PySem.W.keepIn K (.ref fL) = true)
    (qMH : PySem.W.nsIn K mainGlobals "MOST_HELD" = some (some (.int 1000 tkMH)))
    (zrange : PySem.W.nsIn K mainGlobals "range" = some none)
    (zlen : PySem.W.nsIn K mainGlobals "len" = some none)
    (zint : PySem.W.nsIn K mainGlobals "int" = some none)
    (zbool : PySem.W.nsIn K mainGlobals "bool" = some none)
    (zisinstance : PySem.W.nsIn K mainGlobals "isinstance" = some none)
    (zlist : PySem.W.nsIn K mainGlobals "list" = some none)
    (zabs : PySem.W.nsIn K mainGlobals "abs" = some none)
    (zmin : PySem.W.nsIn K mainGlobals "min" = some none)
    (zmax : PySem.W.nsIn K mainGlobals "max" = some none)
    (ztuple : PySem.W.nsIn K mainGlobals "tuple" = some none)
    : ∃ fd : FuncData, (∀ (s : Shared) (v : Value), BindsTo s fd ⟨[v], []⟩ [("script", v)]) ∧ ∀ base : Heap, K.In base → base.Ns mainGlobals mg → FnOk l.prog w K mg base CX0 7 fa fd ["script"] (spLaw K) := by
  have e := hfa.symm.trans (PySem.W.mg_of X G alaw)
  cases e
  have KlT : Cls K cT := ⟨pgT, hdT, poT, saT⟩
  have KlK : Cls K cK := ⟨pgK, hdK, poK, saK⟩
  have KlI : Cls K cI := ⟨pgI, hdI, poI, saI⟩
  have tyI : ∀ {H : Hp} {a dx : Addr} {fs : List (Str × V)}, H a = some (.ins cI dx fs) → TyX K H (.ref a) (.ref cI) := fun e => .base (.ins e KlI haI hnTy htTy hmI)
  have KlR : Cls K cR := ⟨pgR, hdR, poR, saR⟩
  have tyR : ∀ {H : Hp} {a dx : Addr} {fs : List (Str × V)}, H a = some (.ins cR dx fs) → TyX K H (.ref a) (.ref cR) := fun e => .base (.ins e KlR haR hnTy htTy hmR)
  have KlS : Cls K cS := ⟨pgS, hdS, poS, saS⟩
  have oexE : OexC K cE := ⟨⟨nmE, qE, NE, bsE, _, snE, subE, abE, colE, ddE, m0E, m1E, m2E, m3E, m5E, xE, by rfl⟩, saE, exE, tpE, kpE⟩
  have TE : Exn l.prog K mg cE fE "kind" "message" := ⟨oexE, n1E, n2E, iE, tiE, ⟨gaE, ggE, exE, hdE⟩, PySem.W.exm_ref exE hdE tpE ssE⟩
  have UE : Sup l.prog K mg cdaE ccE cE cE := ⟨⟨_, _, _, _, _, _, coE, cvE, fiE⟩, ⟨_, _, _, ceE⟩, toSup, PySem.W.mg_none_of X G suSup, (PySem.W.any_some hdE).imp fun _ h => h.1, mrE, opSup, ksE, vaE⟩
  have bE : Binds K (PySem.W.ksFn "__init__" "ScriptError.__init__" (defArgs sSE) (defBody sSE) (defScope sSE) .none kVE dcE pmE anE (.ref cdaE) ctE ccE) ["self", "kind", "message"] [] := .all fun us hl => match us, hl with | [_, _, _], _ => rfl
  have ecE : ExcC K cE := ⟨gaE, ggE, exE, hdE, haE, hnTy, htTy, hmE⟩
  have Ftag := fun_mk (st := sTagged) ltag ctag ktag
  have btag := Ftag.binds (ps := ["key"]) fun _ _ _ _ _ _ us hl => match us, hl with | [_], _ => rfl
  have gltag := PySem.W.mg_of X G atag
  have FTI := fun_mk (st := sTI) lTI cTI kTI
  have bTI := FTI.binds (ps := ["self"]) fun _ _ _ _ _ _ us hl => match us, hl with | [_], _ => rfl
  have KTI : Mk K cT fTI := ⟨mkT, aTI, iTI, kcT⟩
  have FTH := fun_mk (st := sTHas) lTH cTH kTH
  have bTH := FTH.binds (ps := ["self", "key"]) fun _ _ _ _ _ _ us hl => match us, hl with | [_, _], _ => rfl
  have MTH : Meth K cT "has" fTH := ⟨aTH, iTH, kTH⟩
  have FTV := fun_mk (st := sTValue) lTV cTV kTV
  have bTV := FTV.binds (ps := ["self", "key"]) fun _ _ _ _ _ _ us hl => match us, hl with | [_, _], _ => rfl
  have MTV : Meth K cT "value_of" fTV := ⟨aTV, iTV, kTV⟩
  have FTP := fun_mk (st := sTPut) lTP cTP kTP
  have bTP := FTP.binds (ps := ["self", "key", "value"]) fun _ _ _ _ _ _ us hl => match us, hl with | [_, _, _], _ => rfl
  have MTP : Meth K cT "put" fTP := ⟨aTP, iTP, kTP⟩
  have FTT := fun_mk (st := sTTake) lTT cTT kTT
  have bTT := FTT.binds (ps := ["self", "key"]) fun _ _ _ _ _ _ us hl => match us, hl with | [_, _], _ => rfl
  have MTT : Meth K cT "take_out" fTT := ⟨aTT, iTT, kTT⟩
  have FTA := fun_mk (st := sTPairs) lTA cTA kTA
  have bTA := FTA.binds (ps := ["self"]) fun _ _ _ _ _ _ us hl => match us, hl with | [_], _ => rfl
  have MTA : Meth K cT "pairs" fTA := ⟨aTA, iTA, kTA⟩
  have FTM := fun_mk (st := sTMany) lTM cTM kTM
  have bTM := FTM.binds (ps := ["self"]) fun _ _ _ _ _ _ us hl => match us, hl with | [_], _ => rfl
  have PTM : PropOf K cT "many" pTM fTM := ⟨aTM, pgtTM, ptkTM, _, prcTM⟩
  have FKI := fun_mk (st := sIK) lKI cKI kKI
  have bKI := FKI.binds (ps := ["self", "name", "parent"]) fun _ _ _ _ _ _ us hl => match us, hl with | [_, _, _], _ => rfl
  have KKI : Mk K cK fKI := ⟨mkK, aKI, iKI, kcK⟩
  have FII := fun_mk (st := sII) lII cII kII
  have bII := FII.binds (ps := ["self", "owner"]) fun _ _ _ _ _ _ us hl => match us, hl with | [_, _], _ => rfl
  have KII : Mk K cI fII := ⟨mkI, aII, iII, kcI⟩
  have FRI := fun_mk (st := sIR) lRI cRI kRI
  have bRI := FRI.binds (ps := ["self", "number"]) fun _ _ _ _ _ _ us hl => match us, hl with | [_, _], _ => rfl
  have KRI : Mk K cR fRI := ⟨mkR, aRI, iRI, kcR⟩
  have FRE := fun_mk (st := sER) lRE cRE kRE
  have bRE := FRE.binds (ps := ["self", "other"]) fun _ _ _ _ _ _ us hl => match us, hl with | [_, _], _ => rfl
  have MRE : Meth K cR "__eq__" fRE := ⟨aRE, iRE, kRE⟩
  have FSI := fun_mk (st := sIS) lSI cSI kSI
  have bSI := FSI.binds (ps := ["self", "lines"]) fun _ _ _ _ _ _ us hl => match us, hl with | [_, _], _ => rfl
  have KSI : Mk K cS fSI := ⟨mkS, aSI, iSI, kcS⟩
  have FSM := fun_mk (st := sSM) lSM cSM kSM
  have bSM := FSM.binds (ps := ["self", "thing"]) fun _ _ _ _ _ _ us hl => match us, hl with | [_, _], _ => rfl
  have MSM : Meth K cS "make" fSM := ⟨aSM, iSM, kSM⟩
  have FSA := fun_mk (st := sSA) lSA cSA kSA
  have bSA := FSA.binds (ps := ["self", "ref"]) fun _ _ _ _ _ _ us hl => match us, hl with | [_, _], _ => rfl
  have MSA : Meth K cS "at" fSA := ⟨aSA, iSA, kSA⟩
  have FCS := fun_mk (st := sCS) lCS cCS kCS
  have bCS := FCS.binds (ps := ["size"]) fun _ _ _ _ _ _ us hl => match us, hl with | [_], _ => rfl
  have glCS := PySem.W.mg_of X G aCS
  have FSF := fun_mk (st := sSF) lSF cSF kSF
  have bSF := FSF.binds (ps := ["store", "instance", "pairs"]) fun _ _ _ _ _ _ us hl => match us, hl with | [_, _, _], _ => rfl
  have glSF := PySem.W.mg_of X G aSF
  have FME := fun_mk (st := sME) lME cME kME
  have bME := FME.binds (ps := ["store", "error"]) fun _ _ _ _ _ _ us hl => match us, hl with | [_, _], _ => rfl
  have glME := PySem.W.mg_of X G aME
  have FMF := fun_mk (st := sMF) lMF cMF kMF
  have bMF := FMF.binds (ps := ["store", "kin", "kind", "message"]) fun _ _ _ _ _ _ us hl => match us, hl with | [_, _, _, _], _ => rfl
  have glMF := PySem.W.mg_of X G aMF
  have FlC := fun_mk (st := sCell) llC clC klC
  have blC := FlC.binds (ps := ["script", "k"]) fun _ _ _ _ _ _ us hl => match us, hl with | [_, _], _ => rfl
  have gllC := PySem.W.mg_of X G alC
  have FlB := fun_mk (st := sBegin) llB clB klB
  have blB := FlB.binds (ps := ["script", "k"]) fun _ _ _ _ _ _ us hl => match us, hl with | [_, _], _ => rfl
  have gllB := PySem.W.mg_of X G alB
  have FlD := fun_mk (st := sDraw) llD clD klD
  have blD := FlD.binds (ps := ["state", "many"]) fun _ _ _ _ _ _ us hl => match us, hl with | [_, _], _ => rfl
  have gllD := PySem.W.mg_of X G alD
  have FlP := fun_mk (st := sPick) llP clP klP
  have blP := FlP.binds (ps := ["state", "row"]) fun _ _ _ _ _ _ us hl => match us, hl with | [_, _], _ => rfl
  have gllP := PySem.W.mg_of X G alP
  have FlS := fun_mk (st := sLSame) llS clS klS
  have blS := FlS.binds (ps := ["x", "y"]) fun _ _ _ _ _ _ us hl => match us, hl with | [_, _], _ => rfl
  have gllS := PySem.W.mg_of X G alS
  have FlA := fun_mk (st := sLAt) llA clA klA
  have blA := FlA.binds (ps := ["rows", "key"]) fun _ _ _ _ _ _ us hl => match us, hl with | [_, _], _ => rfl
  have gllA := PySem.W.mg_of X G alA
  have FlQ := fun_mk (st := sLEq) llQ clQ klQ
  have blQ := FlQ.binds (ps := ["table", "rows"]) fun _ _ _ _ _ _ us hl => match us, hl with | [_, _], _ => rfl
  have gllQ := PySem.W.mg_of X G alQ
  have FlU := fun_mk (st := sDeed) llU clU klU
  have blU := FlU.binds (ps := ["state", "table", "rows"]) fun _ _ _ _ _ _ us hl => match us, hl with | [_, _, _], _ => rfl
  have gllU := PySem.W.mg_of X G alU
  have FlE := fun_mk (st := sLErr) llE clE klE
  have blE := FlE.binds (ps := ["state"]) fun _ _ _ _ _ _ us hl => match us, hl with | [_], _ => rfl
  have gllE := PySem.W.mg_of X G alE
  have Flaw := fun_mk (st := sLaw) llaw claw klaw
  have gllaw := PySem.W.mg_of X G alaw
  have ciMH : ∃ t, mg "MOST_HELD" = some (.int 1000 t) := ⟨_, PySem.W.mg_of X G qMH⟩
  have B : Bl mg := ⟨PySem.W.mg_none_of X G zrange, PySem.W.mg_none_of X G zlen, PySem.W.mg_none_of X G zint, PySem.W.mg_none_of X G zbool, PySem.W.mg_none_of X G zisinstance, PySem.W.mg_none_of X G zlist, PySem.W.mg_none_of X G zabs, PySem.W.mg_none_of X G zmin, PySem.W.mg_none_of X G zmax⟩
  have TC : Tc K cT := ⟨KlT, nT__entries⟩
  have TM : Tm K mg tag _ := ⟨Ftag, btag, gltag⟩
  have T : Ta K mg cT tag fTH fTV fTP fTT fTA pTM fTM _ _ _ _ _ _ _ := ⟨TC, TM, MTH, FTH, bTH, MTV, FTV, bTV, MTP, FTP, bTP, MTT, FTT, bTT, MTA, FTA, bTA, PTM, FTM, bTM⟩
  have C : Cs K mg cK cI cR cS := ⟨KlK, nK_name, nK_parent, nK_methods, PySem.W.mg_of X G uK, KlI, nI_owner, nI_named, PySem.W.mg_of X G uI, tyI, KlR, nR_number, PySem.W.mg_of X G uR, tyR, KlS, nS_things, nS_output, nS_lines, nS_taken, PySem.W.mg_of X G uS⟩
  have Si1 : Si K cR fRI _ := ⟨KRI, FRI, bRI⟩
  have Sm1 : Sm K mg cS cI fSM fSA fII CS SF MF _ _ _ _ _ _ := ⟨MSM, FSM, bSM, MSA, FSA, bSA, KII, FII, bII, FCS, bCS, glCS, ciMH, FSF, bSF, glSF, FMF, bMF, glMF⟩
  have Z : Ex l.prog K mg cE cL fE _ := ⟨TE, fun _ _ => ok_SE liE ciE TE UE, bE, PySem.W.mg_of X G uE, PySem.W.mg_of X G uL, ecE, klEL⟩
  have Se1 : Se K mg cR cK cS fRE fKI fSI ME _ _ _ _ := ⟨⟨aRE, iRE⟩, FRE, bRE, KKI, FKI, bKI, KSI, FSI, bSI, FME, bME, glME⟩
  have L : Lx K mg lC lB lD lP _ _ _ _ := ⟨FlC, blC, gllC, FlB, blB, gllB, FlD, blD, gllD, FlP, blP, gllP⟩
  exact ⟨PySem.W.fnOf "law" "law" (defArgs sLaw) (defBody sLaw) (defScope sLaw) .none kVlaw dclaw pmlaw anlaw cdlaw ctlaw, fun s v => .of_eq rfl, fun base _ _ => ok_law Flaw B (PySem.W.mg_none_of X G ztuple) T KTI FTI bTI (PySem.W.mg_of X G uT) L FlS blS gllS FlA blA gllA FlQ blQ gllQ FlU blU gllU FlE blE gllE (ok_lerr FlE C B Sm1 Si1 Z Se1 L)⟩
end My
open PySem PySem.W PyProof.Rows
set_option maxRecDepth 100000 in
set_option maxHeartbeats 0 in
theorem PySem.Challenge.cw_livequill_k30_tables_and_errors_holds : PySem.Challenge.rw_livequill_k30_tables_and_errors.Holds := by
  w_on; o_law; k_head; (case hw => w_witness2)
  k_fill
  refine L2.walk_of (l := PySem.Challenge.rw_livequill_k30_tables_and_errors) (n := 63) (k := 7) (x := "script") (CX := fun _ => L2.CX0) (sp := fun w => My.spLaw _) rfl (by decide) rfl ⟨rfl, by decide, by decide⟩ (fun w h Y => PySem.W.kIn_of Y) ?F (fun _ _ a ns hl _ hS => ⟨a, ns, rfl, hS, hl, fun _ => rfl⟩) (fun _ _ _ _ _ h => h)
  case F =>
    intro w mg fa h KX G hmg
    refine' My.all_mk KX G hmg ?uT ?mkT ?kcT ?pgT ?hdT ?poT ?saT ?nT__entries ?uK ?mkK ?kcK ?pgK ?hdK ?poK ?saK ?nK_name ?nK_parent ?nK_methods ?uI ?mkI ?kcI ?pgI ?hdI ?poI ?saI ?nI_owner ?nI_named ?hnTy ?htTy ?haI ?hmI ?uR ?mkR ?kcR ?pgR ?hdR ?poR ?saR ?nR_number ?haR ?hmR ?uS ?mkS ?kcS ?pgS ?hdS ?poS ?saS ?nS_things ?nS_output ?nS_lines ?nS_taken ?uE ?xE ?saE ?exE ?tpE ?kpE ?n1E ?n2E ?iE ?tiE ?gaE ?ggE ?hdE ?ssE ?liE ?ciE ?coE ?cvE ?fiE ?ceE ?toSup ?suSup ?opSup ?mrE ?ksE ?vaE ?haE ?hmE ?uL ?klEL ?atag ?ltag ?ctag ?ktag ?aTI ?iTI ?lTI ?cTI ?kTI ?aTH ?iTH ?lTH ?cTH ?kTH ?aTV ?iTV ?lTV ?cTV ?kTV ?aTP ?iTP ?lTP ?cTP ?kTP ?aTT ?iTT ?lTT ?cTT ?kTT ?aTA ?iTA ?lTA ?cTA ?kTA ?aTM ?pgtTM ?ptkTM ?prcTM ?lTM ?cTM ?kTM ?aKI ?iKI ?lKI ?cKI ?kKI ?aII ?iII ?lII ?cII ?kII ?aRI ?iRI ?lRI ?cRI ?kRI ?aRE ?iRE ?lRE ?cRE ?kRE ?aSI ?iSI ?lSI ?cSI ?kSI ?aSM ?iSM ?lSM ?cSM ?kSM ?aSA ?iSA ?lSA ?cSA ?kSA ?aCS ?lCS ?cCS ?kCS ?aSF ?lSF ?cSF ?kSF ?aME ?lME ?cME ?kME ?aMF ?lMF ?cMF ?kMF ?alC ?llC ?clC ?klC ?alB ?llB ?clB ?klB ?alD ?llD ?clD ?klD ?alP ?llP ?clP ?klP ?alS ?llS ?clS ?klS ?alA ?llA ?clA ?klA ?alQ ?llQ ?clQ ?klQ ?alU ?llU ?clU ?klU ?alE ?llE ?clE ?klE ?alaw ?llaw ?claw ?klaw ?qMH ?zrange ?zlen ?zint ?zbool ?zisinstance ?zlist ?zabs ?zmin ?zmax ?ztuple
    (case uT => k_is)
    (case mkT => k_is)
    (case kcT => k_is)
    (case pgT => k_is)
    (case hdT => k_is)
    (case poT => k_is)
    (case saT => k_is)
    (case nT__entries => k_is)
    (case uK => k_is)
    (case mkK => k_is)
    (case kcK => k_is)
    (case pgK => k_is)
    (case hdK => k_is)
    (case poK => k_is)
    (case saK => k_is)
    (case nK_name => k_is)
    (case nK_parent => k_is)
    (case nK_methods => k_is)
    (case uI => k_is)
    (case mkI => k_is)
    (case kcI => k_is)
    (case pgI => k_is)
    (case hdI => k_is)
    (case poI => k_is)
    (case saI => k_is)
    (case nI_owner => k_is)
    (case nI_named => k_is)
    (case hnTy => k_is)
    (case htTy => k_is)
    (case haI => k_is)
    (case hmI => k_is)
    (case uR => k_is)
    (case mkR => k_is)
    (case kcR => k_is)
    (case pgR => k_is)
    (case hdR => k_is)
    (case poR => k_is)
    (case saR => k_is)
    (case nR_number => k_is)
    (case haR => k_is)
    (case hmR => k_is)
    (case uS => k_is)
    (case mkS => k_is)
    (case kcS => k_is)
    (case pgS => k_is)
    (case hdS => k_is)
    (case poS => k_is)
    (case saS => k_is)
    (case nS_things => k_is)
    (case nS_output => k_is)
    (case nS_lines => k_is)
    (case nS_taken => k_is)
    (case uE => k_is)
    (case xE => k_is)
    (case saE => k_is)
    (case exE => k_is)
    (case tpE => k_is)
    (case kpE => k_is)
    (case n1E => k_is)
    (case n2E => k_is)
    (case iE => k_is)
    (case tiE => k_is)
    (case gaE => k_is)
    (case ggE => k_is)
    (case hdE => k_is)
    (case ssE => first | rfl | k_is)
    (case liE => k_is)
    (case ciE => k_is)
    (case coE => k_is)
    (case cvE => rfl)
    (case fiE => first | rfl | decide +kernel)
    (case ceE => k_is)
    (case toSup => first | rfl | decide +kernel)
    (case suSup => k_is)
    (case opSup => k_is)
    (case mrE => k_is)
    (case ksE => ks_is)
    (case vaE => k_is)
    (case haE => k_is)
    (case hmE => k_is)
    (case uL => k_is)
    (case klEL => kit_is)
    (case atag => k_is)
    (case ltag => k_is)
    (case ctag => k_is)
    (case ktag => k_is)
    (case aTI => k_is)
    (case iTI => k_is)
    (case lTI => k_is)
    (case cTI => k_is)
    (case kTI => k_is)
    (case aTH => k_is)
    (case iTH => k_is)
    (case lTH => k_is)
    (case cTH => k_is)
    (case kTH => k_is)
    (case aTV => k_is)
    (case iTV => k_is)
    (case lTV => k_is)
    (case cTV => k_is)
    (case kTV => k_is)
    (case aTP => k_is)
    (case iTP => k_is)
    (case lTP => k_is)
    (case cTP => k_is)
    (case kTP => k_is)
    (case aTT => k_is)
    (case iTT => k_is)
    (case lTT => k_is)
    (case cTT => k_is)
    (case kTT => k_is)
    (case aTA => k_is)
    (case iTA => k_is)
    (case lTA => k_is)
    (case cTA => k_is)
    (case kTA => k_is)
    (case aTM => k_is)
    (case pgtTM => k_is)
    (case ptkTM => k_is)
    (case prcTM => k_is)
    (case lTM => k_is)
    (case cTM => k_is)
    (case kTM => k_is)
    (case aKI => k_is)
    (case iKI => k_is)
    (case lKI => k_is)
    (case cKI => k_is)
    (case kKI => k_is)
    (case aII => k_is)
    (case iII => k_is)
    (case lII => k_is)
    (case cII => k_is)
    (case kII => k_is)
    (case aRI => k_is)
    (case iRI => k_is)
    (case lRI => k_is)
    (case cRI => k_is)
    (case kRI => k_is)
    (case aRE => k_is)
    (case iRE => k_is)
    (case lRE => k_is)
    (case cRE => k_is)
    (case kRE => k_is)
    (case aSI => k_is)
    (case iSI => k_is)
    (case lSI => k_is)
    (case cSI => k_is)
    (case kSI => k_is)
    (case aSM => k_is)
    (case iSM => k_is)
    (case lSM => k_is)
    (case cSM => k_is)
    (case kSM => k_is)
    (case aSA => k_is)
    (case iSA => k_is)
    (case lSA => k_is)
    (case cSA => k_is)
    (case kSA => k_is)
    (case aCS => k_is)
    (case lCS => k_is)
    (case cCS => k_is)
    (case kCS => k_is)
    (case aSF => k_is)
    (case lSF => k_is)
    (case cSF => k_is)
    (case kSF => k_is)
    (case aME => k_is)
    (case lME => k_is)
    (case cME => k_is)
    (case kME => k_is)
    (case aMF => k_is)
    (case lMF => k_is)
    (case cMF => k_is)
    (case kMF => k_is)
    (case alC => k_is)
    (case llC => k_is)
    (case clC => k_is)
    (case klC => k_is)
    (case alB => k_is)
    (case llB => k_is)
    (case clB => k_is)
    (case klB => k_is)
    (case alD => k_is)
    (case llD => k_is)
    (case clD => k_is)
    (case klD => k_is)
    (case alP => k_is)
    (case llP => k_is)
    (case clP => k_is)
    (case klP => k_is)
    (case alS => k_is)
    (case llS => k_is)
    (case clS => k_is)
    (case klS => k_is)
    (case alA => k_is)
    (case llA => k_is)
    (case clA => k_is)
    (case klA => k_is)
    (case alQ => k_is)
    (case llQ => k_is)
    (case clQ => k_is)
    (case klQ => k_is)
    (case alU => k_is)
    (case llU => k_is)
    (case clU => k_is)
    (case klU => k_is)
    (case alE => k_is)
    (case llE => k_is)
    (case clE => k_is)
    (case klE => k_is)
    (case alaw => k_is)
    (case llaw => k_is)
    (case claw => k_is)
    (case klaw => k_is)
    (case qMH => k_is)
    (case zrange => k_is)
    (case zlen => k_is)
    (case zint => k_is)
    (case zbool => k_is)
    (case zisinstance => k_is)
    (case zlist => k_is)
    (case zabs => k_is)
    (case zmin => k_is)
    (case zmax => k_is)
    (case ztuple => k_is)
