import PyProof.Rows.All
import Wide.All
import OpenK.AllK
import Wide.FinOn
import HandS.ForMost
import HandS.ForExc
import HandS.StrMore
import HandS.IsInst
import HandS.Codes
import HandS.Gcd
import HandS.Zip
import HandS.Zip0
import KE.GoesZip
import KE.GoesMore
import HandS.Walk
import KE.KMathG
import HandS.Text
import HandS.Flow
import HandS.More
import HandS.Walk
import HandS.OwnEq
import HandS.Style
import PyProof.Raises
import KE.RegKIsAll
import KE.KSuper
import KE.KExcSuper
import HandS.ExcInit
import HandS.Nested
import HandS.FStr
import HandS.ExcField
import HandS.ExcIs
import HandS.Wide
import HandS.DeepEq
import HandS.SortInts
import HandS.Replace
import KE.GoesEnum
import HandS.ReplaceDef
import HandS.ReplaceLit
import HandS.ReplaceList
import HandS.WideBits
import HandS.ExcCtx
import HandS.HotCalls
import HandS.Deep
import HandS.CallLocal
import HandS.CallSlots
import HandS.Star
import HandS.TupLen
import HandS.Property
import KE.KStar
import KE.KeyNested
import KE.KDictCopyH
import KE.KDictList
import PyProof.StrBlock2
import HandS.Conv
import KE.KDictWalk
import KE.KDictZip
import PyProof.DictValues
import PyProof.DictRoadsH
import PyProof.DictMoreH
import PyProof.Rows.TupTab
import PySem.Challenge.RW_livequill_k33_lists_sorted_and_joined
set_option Elab.async false
set_option linter.all false
set_option maxRecDepth 100000
namespace XS
open PySem PySem.W PySem.Calls PyProof.Rows L2 NdefX
/-! ### an own exception whose __init__ begins with super().__init__(e), over ValueError -/
/-- what the written part says: of the def at fI (its code object at cda, its cell at cc), of the class D in which it is written, and of the class C that is made -/
structure Sup (prog : Program) (K : Frag) (mg : Str → Option Value) (cda cc D C : Addr) : Prop where
  code : ∃ ccl cdd vs ccs file tf, K.lookup cda = some ⟨ccl, cdd, .fields vs, ccs⟩ ∧ vs[2]? = some (.str file tf) ∧ ((prog.main.file : Str) == file) = true
  cell : ∃ cl cld csl, K.lookup cc = some ⟨cl, cld, .cell (some (.ref D)), csl⟩
  top : (prog.main.scope.names.lookup ("super" : Str)).isSome = false
  sup : mg "super" = none
  cls : ∃ cdD, clsIn K D = some cdD
  sub : mroIn K C (.ref D) = some true
  opq : nsIn K cStatics "thirdparty.any" = some none
  ini : ks_superIn K C D "__init__" = some (some (.builtin "ValueError.__init__"))
  val : subIn K (.ref C) (.type "ValueError") = some true

theorem excInit_exo {cdC : Addr} {K : Frag} (T : OexC K cdC) {h : Heap} (X : K.In h) : ∃ nm q N bs bm sn sub ab col dd k0 k1 k2 k3 k5, h.get? cdC = some (excClassObj nm q cdC N bs bm true sn sub ab col dd k0 k1 k2 k3 k5 "ValueError.__new__") ∧ PySem.HandSPX.refsVE bm = true := by
  obtain ⟨nm, q, N, bs, bm, sn, sub, ab, col, dd, k0, k1, k2, k3, k5, hC, hbm⟩ := T.cls
  exact ⟨nm, q, N, bs, bm, sn, sub, ab, col, dd, k0, k1, k2, k3, k5, X _ _ hC, hbm⟩

section
variable {X : Cx} {pins : List (Addr × Obj)} {σ : L2.St} {H : Hp} {s : Shared} {x C : Addr} {A : Around} {E : Value → Shared → Prop}
/-- the method-wrapper called -/
theorem mw_call {u : Addr} {us : List Value} {Q : Value → Shared → Prop} (T : OexC X.K C) (I : Inv X pins σ H s) (e : H x = some (exo x C none)) (hu : s.heap.get? u = some (kxs_mw "ValueError.__init__" x)) (hl : us.length ≤ sizeLine)
    (h : ∀ s', Inv X pins σ H s' → Q .none s') : wpAny (model X.prog X.w) A (call (.ref u) us) Q E s := by
  obtain ⟨nm, q, N, bs, bm, sn, sub, ab, col, dd, k0, k1, k2, k3, k5, hC, hbm⟩ := excInit_exo T I.kIn
  obtain ⟨t1, ho⟩ := exo_at I.hok e
  obtain ⟨hp, g, d, t, os⟩ := s
  refine wpAny_call (codeAny_of_tree ?_)
  show wpAny _ A.in1 (callAny (.ref u) ⟨us, []⟩) _ _ _
  simp only [callAny]
  refine wpAny_bind (wpAny_load hu ?_)
  simp only [kxs_mw, show (Value.type "method-wrapper" == Value.type "method" || Value.type "method-wrapper" == Value.type "builtin_function_or_method" || Value.type "method-wrapper" == Value.type "method-wrapper") = true by decide, if_true]
  refine KFB.if_so (by decide) ?_
  refine wpAny_bind (check_bound_init F.excBase_ValueError.toExcCallFacts hC ho rfl ?_)
  refine wpAny_bind (wpAny_pure (wpAny_pure ?_))
  refine ⟨plainId_quiet F.excBase_ValueError.init.plain _, codeAny_builtin F.excBase_ValueError.initEntry ?_⟩
  refine exc_init_tree (cls := .ref C) (t0 := t1) (dv := none) (c2 := .none) (c3 := .none) (b4 := .bool false) ho hl fun h' k hx _ => ?_
  have J := I.write (t' := t) (x := x) (e := x) (o := exo x C none) (by rw [e]; exact True.intro) (.inl rfl) k ⟨_, hx⟩ (exo_ok hx)
  have eu : upd H x (exo x C none) = H := by
    funext b
    by_cases hb : b = x
    · rw [hb, upd_same, e]
    · rw [upd_ne hb]
  rw [eu] at J
  exact h _ J
end
theorem mw_with {M : Model} {A : Around} {E : Value → Shared → Prop} {s : Shared} {u x : Addr} {i : String} {pos : Pos} {env : Env} {e : Expr} {rest : List Expr} {Q : Value → Shared → Prop}
    (he : starEach (e :: rest) env = (false, eval e env) :: starEach rest env) (hplain : (backTo pos (starEach rest env)).any (·.1) = false)
    (h : wpAny M A (spliced (backTo pos (starEach (e :: rest) env))) (fun vs s₁ => KxsAt i u x s₁.heap ∧ wpAny M A (call (.ref u) vs) Q E s₁) E s) :
    wpAny M A (callWith pos (.ref u) [] (backTo pos (starEach (e :: rest) env)) []) Q E s := by
  rw [he] at h ⊢
  refine kxs_callWith (i := i) (x := x) (by show (false || (backTo pos (starEach rest env)).any (·.1)) = false; rw [hplain]; rfl) ?_
  exact evalArgs_plain h
/-- the def's own words -/
structure SupFn where
  qual : Str
  params : Arguments
  rest : List Stmt
  scope : Scope
  cda : Addr
  cc : Addr
  arg : Expr
  p0 : Pos
  p1 : Pos
  p2 : Pos
  p3 : Pos
  p4 : Pos
abbrev SupFn.body (F : SupFn) : List Stmt := .Expr (.Call (.Attribute (.Call (.Name "super" F.p0) [] [] F.p1) "__init__" F.p2) [F.arg] [] F.p3) F.p4 :: F.rest
abbrev SupFn.nf (F : SupFn) : NF := ⟨"__init__", F.qual, F.params, F.body, F.scope, [("__class__", F.cc)], F.cda⟩
def SupFn.Ev (F : SupFn) : Prop := ∀ env : Env, (∃ pl : Sem Bool, eval (.Call (.Attribute (.Call (.Name "super" F.p0) [] [] F.p1) "__init__" F.p2) [F.arg] [] F.p3) env = (do
      let ov ← attributeBase (.Call (.Name "super" F.p0) [] [] F.p1) "__init__" env (eval (.Call (.Name "super" F.p0) [] [] F.p1) env)
      standAt F.p2.atName
      let (f, first) ← holding [ov] (getMethod ov "__init__" pl)
      callWith F.p3 f first (backTo F.p3 (starEach [F.arg] env)) [])) ∧ starEach [F.arg] env = (false, eval F.arg env) :: starEach [] env ∧ swapsWith (.Call (.Attribute (.Call (.Name "super" F.p0) [] [] F.p1) "__init__" F.p2) [F.arg] [] F.p3) none F.p4.line env = pure false
theorem fn_super {CX : CXT} {P : Program} {w : World} {K : Frag} {mg : Str → Option Value} {base : Heap} {k : Nat} {fI D : Addr} {F : SupFn} {dV kV doc pm ct oc : Value} {an od : Option Addr} {osl : Array (Option Value)} {N ps : List Str} {sp : Sp} {ar : Arg}
    (lk : K.lookup fI = some ⟨oc, od, .func (ksFn "__init__" F.qual F.params F.body F.scope dV kV doc pm an (.ref F.cda) ct F.cc), osl⟩) (hcd : codeIn K (.ref F.cda) F.qual = true) (S : NScope N ps ["__class__"] F.scope)
    (hp : (F.params.posonlyargs ++ F.params.args).head? = some ar) (h0 : ps.head? = some ar.arg) (hks : F.scope.names.lookup ("super" : Str) = some .globalImplicit)
    (hev : F.Ev) (len : ∀ vs H Q E, sp vs H Q E → vs.length = ps.length)
    (hbody : ∀ (A : Around) (outer : List Env) (s : Shared) (H : Hp) (vs : List V) (Q : VK) (E : XK), Room k (A.deeper (envF F.nf fI s.heap.objs.size)) → sp vs H Q E →
      ∃ (x C : Addr) (ta : TA) (t : TS), vs.head? = some (.ref x) ∧ H x = some (exo x C none) ∧ OexC K C ∧ Sup P K mg F.cda F.cc D C ∧
        PA (ncx CX P w K mg base N F.nf fI A outer s H E) [F.arg] ta ∧ PSs (ncx CX P w K mg base N F.nf fI A outer s H E) F.rest t ∧
        ta (startF N vs [none]) H fun ws H1 => ws.length ≤ 1000 ∧ H1 x = some (exo x C none) ∧ t { nx := fun _ H' => Q .non H', rt := Q } (startF N vs [none]) H1) :
    FnOk P w K mg base CX (k + 1) fI (ksFn "__init__" F.qual F.params F.body F.scope dV kV doc pm an (.ref F.cda) ct F.cc) ps sp := by
  refine ⟨len, fun A outer s H args us vs Q E hr e0 hb r hsp => ?_⟩
  have hl := len _ _ _ _ hsp
  have KX : K.In s.heap := e0.mod.kin.keeps fun b o e => (e0.bs b o e).1
  have lim : s.heap.NoLimit := e0.mod.nolimit.keeps fun b o e => (e0.bs b o e).1
  obtain ⟨x, C, ta, t, hx0, hx, T, U, pa, pb, hq⟩ := hbody A outer s H vs Q E (hr.deeper _) hsp
  obtain ⟨ccl, cdd, cvs, ccs, file, tf, hcode, hvs, hfile⟩ := U.code
  obtain ⟨cl, cld, csl, hcell⟩ := U.cell
  obtain ⟨cdD, hD⟩ := U.cls
  refine ks_codeAny_call_defAt (fd := ksFn "__init__" F.qual F.params F.body F.scope dV kV doc pm an (.ref F.cda) ct F.cc) (body := F.body) (binds := ps.zip us) hr.depth (KX _ _ lk) rfl lim (codeRec_of KX hcd) rfl hb S.nocell (fun ⟨n, _⟩ hy => S.par n (List.of_mem_zip hy).1) (fun h₁ hns kp => ?_) S.co S.gen S.kind
  have CA : CellsAt F.nf.cl ["__class__"] [none] s.heap H := by
    have hc0 : base.get? F.cc = _ := e0.mod.kin _ _ hcell
    obtain ⟨g1, g2⟩ := e0.bs _ _ hc0
    have key : ∀ y c, F.nf.cl.lookup y = some c → y = "__class__" ∧ c = F.cc := fun y c e => by
      by_cases hy : y = "__class__"
      · subst hy
        have e' : some F.cc = some c := by simpa [List.lookup] using e
        exact ⟨rfl, (Option.some.inj e').symm⟩
      · have hne : (y == ("__class__" : Str)) = false := by simpa using hy
        have e' : (none : Option Addr) = some c := by simpa [List.lookup, hne] using e
        cases e'
    refine ⟨rfl, fun y c e => ?_, fun a b c e1 e2 => (key _ _ e1).1.trans (key _ _ e2).1.symm, fun i y e => ?_⟩
    · obtain ⟨_, rfl⟩ := key y c e
      exact ⟨g2, _, _, g1, rfl⟩
    · obtain rfl : y = "__class__" := by
        cases i with
        | zero => exact (Option.some.inj e).symm
        | succ i => cases e
      refine ⟨F.cc, by simp [List.lookup], fun v e' => ?_⟩
      cases i with
      | zero => cases e'
      | succ i => cases e
  have I : Inv (ncx CX P w K mg base N F.nf fI A outer s H E) [] (startF N vs [none]) H { s with heap := h₁, toks := s.toks + (ps.zip us).length } := inv_startN (F := F.nf) S hr.hd e0 hl r CA hns kp
  generalize hs1 : ({ s with heap := h₁, toks := s.toks + (ps.zip us).length } : Shared) = s1 at I ⊢
  have X1 : K.In s1.heap := I.kIn
  obtain ⟨t1, ho⟩ := exo_at I.hok hx
  obtain ⟨oD, hD1, hD2⟩ : ∃ oD, s1.heap.get? D = some oD ∧ oD.data = .cls cdD := by
    unfold clsIn at hD
    split at hD
    · rename_i c d cd' sl ho
      cases hD
      exact ⟨_, X1 _ _ ho, rfl⟩
    · cases hD
  have J : InstAt s1.heap x { cls := .ref C, dict := none, data := .fields #[.ref t1, .none, .none, .none, .bool false, .none] } C none := ⟨ho, rfl, rfl, trivial⟩
  have hself : ∃ u0 ur, us = u0 :: ur ∧ u0 = .ref x := by
    cases vs with
    | nil => cases hx0
    | cons v vr =>
      cases r with
      | @cons _ u0 _ ur ra rr =>
        obtain rfl : v = V.ref x := Option.some.inj hx0
        exact ⟨_, _, rfl, ra⟩
  obtain ⟨u0, ur, eu, eu0⟩ := hself
  subst eu0
  have hN : ∃ pr, ps = ar.arg :: pr := by
    cases ps with
    | nil => cases h0
    | cons a pr =>
      obtain rfl : a = ar.arg := Option.some.inj h0
      exact ⟨pr, rfl⟩
  obtain ⟨pr, eps⟩ := hN
  have ndP : ps.Nodup := by
    have q := S.nd.sublist (List.take_sublist (ps.length + (["__class__"] : List Str).length) N)
    rw [S.pre] at q
    exact (List.nodup_append.mp q).1
  have hns1 : s1.heap.Ns s.heap.objs.size (fun y => (ps.zip us).reverse.lookup y) := by rw [← hs1]; exact hns
  have hav : (ps.zip us).reverse.lookup ar.arg = some (.ref x) := zip_look (i := 0) ndP (by rw [eps]; rfl) (by rw [eu]; rfl)
  have ea : (ncx CX P w K mg base N F.nf fI A outer s H E).xe = fun e s' => wpAny (model P w) (A.deeper (envF F.nf fI s.heap.objs.size)) (leaving (envF F.nf fI s.heap.objs.size) e) (fun _ s'' => CX outer H s E e s'') (fun e' s'' => CX outer H s E e' s'') s' := rfl
  show _root_.PySem.wpAt (model P w) (A.deeper (envF F.nf fI s.heap.objs.size)) (.func F.body (envF F.nf fI s.heap.objs.size)) (execs F.body (envF F.nf fI s.heap.objs.size)) _ (ncx CX P w K mg base N F.nf fI A outer s H E).xe s1
  obtain ⟨⟨pl, hev1⟩, hev2, hev3⟩ := hev (envF F.nf fI s.heap.objs.size)
  refine ks_wpAt_execs_cons (ks_wpAt_Expr_any (ks_wpAt_MethodCall (pl := pl) ?_ hev1) (by show interactive (envF F.nf fI s.heap.objs.size) = false; simp [interactive, S.kind]) hev3)
  obtain ⟨mb, hb1, hb2⟩ := e0.mod.blt
  refine ks_wpAt_super_base (env := envF F.nf fI s.heap.objs.size) (of := _) (fd := _) (ar := ar) (oc := _) hks (S.frk _ (by simp)) rfl rfl (X1 _ _ lk) rfl hp rfl (X1 _ _ hcode) rfl hvs hfile U.top ?_
  refine ks_loadName_global S.kind hks (loadGlobal_builtin (env := envF F.nf fI s.heap.objs.size) (e0.mod.glob.keeps I.bk) U.sup (hb1.keeps I.bk) ((hb2 _ (by decide)).trans (by decide +kernel)) ⟨rfl, ?_⟩)
  refine wpAny_loadName_free S.kind (S.frk _ (by simp)) rfl ⟨_, X1 _ _ hcell, rfl⟩ ?_
  refine wpAny_loadName_local S.kind (S.par _ (by rw [eps]; simp)) hns1 hav ?_
  refine ks_wpAny_isType_cls hD1 hD2 ⟨rfl, ?_⟩
  clear hns kp
  obtain ⟨hp1, g1, d1, tk1, os1⟩ := s1
  refine ks_wpAny_call_super hD1 hD2 J.at_ J.cls (fun c e => by cases e) (looks_mroIn X1 U.sub) (fun h2 es2 k2 => ?_)
  have I2 := I.kept (t' := tk1) k2
  have X2 : K.In h2 := I2.kIn
  have J2 : InstAt h2 x { cls := .ref C, dict := none, data := .fields #[.ref t1, .none, .none, .none, .bool false, .none] } C none := ⟨k2 _ _ ho, rfl, rfl, trivial⟩
  have hI : Looks (model P w) h2 (isInstance (.ref x) (.type "ValueError")) true := J2.type.andThen (looks_subIn X2 U.val)
  have hini := U.ini
  cases hc : clsIn K C with
  | none => unfold ks_superIn at hini; rw [hc] at hini; cases hini
  | some cd =>
    unfold ks_superIn at hini
    rw [hc] at hini
    refine kxs_getMethod kxs_ValueError es2 (looks_opaque X2 U.opq) (l₀ := cd.mro) (fun A Q E s k q => wpAny_bind ((looks_clsIn X2 hc) A _ E s k (wpAny_pure q))) rfl X2 hini hI (ks_ne X2 J2 hc) rfl ?_
    have k3 : ∀ b o, h2.get? b = some o → (h2.push (kxs_mw "ValueError.__init__" x)).get? b = some o := fun b o e => Heap.get?_push_of_some _ e
    have I3 := I2.kept (h' := h2.push (kxs_mw "ValueError.__init__" x)) (t' := tk1 + 1) k3
    have hu : (h2.push (kxs_mw "ValueError.__init__" x)).get? h2.objs.size = some (kxs_mw "ValueError.__init__" x) := Heap.get?_push_at rfl rfl
    have pin : Inv (ncx CX P w K mg base N F.nf fI A outer s H E) [(h2.objs.size, kxs_mw "ValueError.__init__" x)] (startF N vs [none]) H ⟨h2.push (kxs_mw "ValueError.__init__" x), g1, d1, tk1 + 1, os1⟩ := by
      refine Inv.pins_of I3 fun p hp => ?_
      obtain rfl : p = (h2.objs.size, kxs_mw "ValueError.__init__" x) := by simpa using hp
      refine ⟨hu, I2.hok.fresh (Nat.le_refl _), ?_, I2.nofs (Nat.le_refl _), fun v e => by cases e⟩
      exact Nat.ne_of_gt I2.lt
    refine mw_with (i := "ValueError.__init__") (x := x) hev2 rfl ?_
    refine wpAny_mono (pa.run F.p3 _ _ _ _ _ pin hq) (fun ws s2 hh => ?_) fun e s' hs => hs
    obtain ⟨vs2, H2, I4, r4, hlen, hx4, hq4⟩ := hh
    have hu4 : s2.heap.get? h2.objs.size = some (kxs_mw "ValueError.__init__" x) := (I4.pin (h2.objs.size, kxs_mw "ValueError.__init__" x) (by simp)).1
    refine ⟨hu4, ?_⟩
    have hlw : ws.length ≤ sizeLine := by
      rw [← r4.length, sizeLine_eq]
      omega
    refine mw_call (X := ncx CX P w K mg base N F.nf fI A outer s H E) T I4 hx4 hu4 hlw fun s5 I5 => ?_
    have I6 : Inv (ncx CX P w K mg base N F.nf fI A outer s H E) [] (startF N vs [none]) H2 s5 := I5.pins_of fun p hp => absurd hp (by simp)
    refine wpAt_of_wpAny (wpAny_mono (pb.run [] s5 _ H2 _ I6 hq4) (fun fl s' hs => ?_) fun e s' hs => hs)
    have fin : ∀ {σ' : L2.St} {H' : Hp} {v : V} {u : Value}, Inv (ncx CX P w K mg base N F.nf fI A outer s H E) [] σ' H' s' → L2.RelV v u → Q v H' → CE outer P w H s Q u s' :=
      fun {σ' H' v u} J rv q => ⟨v, H', J.os, J.bare, J.base, J.hok, rv, q⟩
    cases fl with
    | ret u =>
      obtain ⟨v, σ', H', J, rv, q⟩ := hs
      exact fin J rv q
    | next =>
      obtain ⟨σ', H', J, q⟩ := hs
      exact fin (v := V.non) (u := Value.none) J rfl q
    | brk =>
      obtain ⟨_, _, _, q⟩ := hs
      exact False.elim q
    | cont =>
      obtain ⟨_, _, _, q⟩ := hs
      exact False.elim q
end XS
namespace XS
open PySem L2 NdefX
/-- the words of an __init__ that begins with super().__init__(e) -/
def supOf (st : Stmt) (qual : Str) (cda cc : Addr) : SupFn := match defBody st with
  | .Expr (.Call (.Attribute (.Call (.Name _ p0) _ _ p1) _ p2) (a :: _) _ p3) p4 :: rest => ⟨qual, defArgs st, rest, defScope st, cda, cc, a, p0, p1, p2, p3, p4⟩
  | _ => ⟨qual, defArgs st, [], defScope st, cda, cc, .Name "x" ⟨0, 0, 0, 0⟩, ⟨0, 0, 0, 0⟩, ⟨0, 0, 0, 0⟩, ⟨0, 0, 0, 0⟩, ⟨0, 0, 0, 0⟩, ⟨0, 0, 0, 0⟩⟩
/-- an __init__(self, n1, n2) of an own exception: f'..' of both to super's, then both are stored -/
def spTwo (C : Addr) (n1 n2 : Str) : Sp := fun vs H Q _ => ∃ a v1 v2, vs = [.ref a, v1, v2] ∧ H a = some (exo a C none) ∧ (∃ k : Str, v1 = .str k ∧ k.length ≤ 100000) ∧ (∃ k : Str, v2 = .str k ∧ k.length ≤ 100000) ∧
  ∀ d, H d = none → d ≠ a → Q .non (upd (upd (upd H d (exd d [(n1, v1)])) a (exo a C (some d))) d (exd d [(n2, v2), (n1, v1)]))
/-- what the written part says of the class at C and of its __init__ at fI -/
structure Exn (prog : Program) (K : PySem.W.Frag) (mg : Str → Option Value) (C fI : Addr) (n1 n2 : Str) : Prop where
  oex : OexC K C
  n1 : PySem.W.findIn K (.ref C) n1 = some none
  n2 : PySem.W.findIn K (.ref C) n2 = some none
  iC : PySem.W.findIn K (.ref C) "__init__" = some (some (.ref fI))
  tI : PySem.W.typeIn K (.ref fI) = some (.type "function")
  xf : XfC K C
  te : PySem.W.exmOne K (.ref C) (.ref C) = some true
/-- the end of C(e, ..) as the caller has it -/
theorem made_two {C : Addr} {n1 n2 : Str} {v1 v2 : V} {H : Hp} {a d : Addr} (hne : d ≠ a) (ha : H a = none) :
    upd (del (upd (upd (upd (upd H a (exo a C none)) d (exd d [(n1, v1)])) a (exo a C (some d))) d (exd d [(n2, v2), (n1, v1)])) a) d (.xd [(n2, v2), (n1, v1)]) = upd H d (.xd [(n2, v2), (n1, v1)]) := by
  funext b
  by_cases hb : b = d
  · rw [hb, upd_same, upd_same]
  · rw [upd_ne hb, upd_ne hb]
    by_cases hc : b = a
    · rw [hc, del_same, ha]
    · rw [del_ne hc, upd_ne hb, upd_ne hc, upd_ne hb, upd_ne hc]
section
variable {X : Cx} {C fI : Addr} {n1 n2 x : Str} {e : Expr} {es : List Expr} {ta : TA} {p pos pos2 : Pos} {fd : FuncData} {k : Nat}
/-- raise C(e1, e2) -/
theorem ps_raise2 {W : WX} (hc : X.calm = true) (T : Exn X.prog X.K X.mg C fI n1 n2) (F : FnOk X.prog X.w X.K X.mg X.base CX0 k fI fd ["self", n1, n2] (spTwo C n1 n2)) (hr : Room (k + 1) X.A) (tk : Takes X W) (hb : Binds X.K fd ["self", n1, n2] []) (hg : Gl X x) (hm : X.mg x = some (.ref C)) (ha : PA X (e :: es) ta)
    (hdb : (x == ("__debug__" : Str)) = false := by decide) (he : starEach (e :: es) X.env = (false, eval e X.env) :: starEach es X.env := by rfl) (hpl : (backTo pos (starEach es X.env)).any (·.1) = false := by rfl) :
    PS X (.Raise (some (.Call (.Name x p) (e :: es) [] pos)) none pos2) (fun _ σ H => tMkO C (spTwo C n1 n2) [] ta σ H fun cls d H' => W cls d σ H') := ps_raise (pos := pos2) hc tk (pmk_oex (e := e) (es := es) (p := p) (pos := pos) T.oex T.iC T.tI F hr hb .nil pass0 hg hm ha hdb he hpl)
/-- .. its reading, behind the arguments' -/
theorem made2 {k1 k2 : Str} {H1 : Hp} {Q : XK} (z1 : k1.length ≤ 100000) (z2 : k2.length ≤ 100000) (w : ∀ d, H1 d = none → Q (.ref C) (some d) (upd H1 d (.xd [(n2, .str k2), (n1, .str k1)]))) :
    ([.str k1, .str k2] : List V).length ≤ 1000 ∧ ∀ a, H1 a = none → spTwo C n1 n2 (.ref a :: ([.str k1, .str k2] ++ [])) (upd H1 a (exo a C none))
      (fun v H2 => v = .non ∧ ∃ (d : Addr) (fs : List (Str × V)), H2 a = some (exo a C (some d)) ∧ H2 d = some (exd d fs) ∧ H1 d = none ∧ Q (.ref C) (some d) (upd (del H2 a) d (.xd fs))) (fun _ _ _ => False) := by
  refine ⟨by show 2 ≤ 1000; omega, fun a ha => ?_⟩
  refine ⟨a, .str k1, .str k2, rfl, upd_same, ⟨_, rfl, z1⟩, ⟨_, rfl, z2⟩, fun d hd hne => ⟨rfl, d, _, ?_, upd_same, ?_, ?_⟩⟩
  · rw [upd_ne (Ne.symm hne)]
    exact upd_same
  · rw [upd_ne hne] at hd
    exact hd
  · rw [upd_ne hne] at hd
    rw [made_two hne ha]
    exact w d hd
end
end XS
namespace PySem.W
open PySem PySem.Spec PySem.Calls PyProof.Rows
section
variable {prog : Program} {w : World} {A : Around} {E : Value → Shared → Prop} {s : Shared} {K : Frag} {x D : Addr} {ox : Obj}
end
end PySem.W
namespace L2
open PySem PySem.Spec PyProof.Rows
end L2
/-! own text: a dict whose keys are pairs of a mark (is it a bool?) and a key: null, a bool, a number, a text -/
namespace XT
open PySem PySem.Spec PyProof.Rows L2
def fk : V → NestedKey
  | .bl b => .num (if b = true then 1 else 0) | .int i => .num i | .str x => .text x | _ => .none
def isB : V → Bool
  | .bl _ => true | _ => false
def tk (k : V) : NestedKey := .tup [.num (if isB k = true then 1 else 0), fk k]
def keyOk : V → Bool
  | .non | .bl _ | .int _ | .str _ => true | _ => false
theorem tk_inj {a b : V} (ha : keyOk a = true) (hb : keyOk b = true) (h : tk a = tk b) : a = b := by
  unfold tk at h
  injection h with h
  injection h with h1 h2
  injection h2 with h2 _
  injection h1 with h1
  cases a <;> cases b <;> simp_all [fk, isB, keyOk]
  case bl.bl x y => cases x <;> cases y <;> simp_all
theorem tk_depth (k : V) : (tk k).depth ≤ 8 := by
  cases k <;> simp [tk, fk, NestedKey.depth, NestedKey.depthAll]
abbrev Ent := V × Addr × V
abbrev EV : List Ent → List (NestedKey × Addr × Value) → Prop := Paired fun p q => tk p.1 = q.1 ∧ p.2.1 = q.2.1 ∧ RelV p.2.2 q.2.2
def TabO (P : Program) (w : World) (a : Addr) (es : List Ent) : HO := .ext fun h => (a == sysModules) = false ∧ ∃ xs o ds ep, EV es xs ∧ h.get? a = some o ∧ o.ExactDict ∧ o.data = .dict ds ep ∧ ds.toList = xs.map (entryOfKey (nestedKind P w)) ∧ (xs.map (·.1)).Nodup
structure TabAt (P : Program) (w : World) (H : Hp) (a : Addr) (es : List Ent) : Prop where
  at_ : H a = some (TabO P w a es)
  keys : ∀ e ∈ es, keyOk e.1 = true ∧ H e.2.1 = some (.tup [.bl (isB e.1), e.1])
  len : es.length ≤ 1000000
def valT (es : List Ent) (k : V) : Option V := (es.find? fun e => decide (e.1 = k)).map (·.2.2)
def putT (es : List Ent) (k : V) (b : Addr) (v : V) : List Ent := if (valT es k).isSome = true then es.map (fun e => if e.1 = k then (e.1, e.2.1, v) else e) else es ++ [(k, b, v)]
def dropT (es : List Ent) (k : V) : List Ent := es.filter fun e => decide (e.1 ≠ k)
theorem key_is {P : Program} {w : World} {H : Hp} {h : Heap} {b : Addr} {k : V} (ok : HOk P w H h) (hk : keyOk k = true) (e : H b = some (.tup [.bl (isB k), k])) : (nestedKind P w).is h (tk k) b := by
  obtain ⟨_, its, r, o, h1, h2, n, h3⟩ := (show ObjOk P w H h b (.tup [.bl (isB k), k]) from ok b _ e)
  refine ⟨.tup h1 h2 h3 ?_, tk_depth k⟩
  cases r with
  | cons r1 r2 =>
    cases r2 with
    | cons r2 r3 =>
      cases r3
      cases (show _ = Value.bool (isB k) from r1)
      refine .cons (.bool rfl) (.cons ?_ .nil)
      cases k with
      | non => cases (show _ = Value.none from r2); exact .none
      | bl b => cases (show _ = Value.bool b from r2); exact .bool rfl
      | int i => obtain ⟨t, rfl⟩ := r2; exact .int i t
      | str x => obtain ⟨t, rfl⟩ := r2; exact .text x t
      | _ => exact nomatch hk
theorem EV.val {es : List Ent} {xs : List (NestedKey × Addr × Value)} (r : EV es xs) {k : V} (hk : keyOk k = true) (he : ∀ e ∈ es, keyOk e.1 = true) : RelO (valT es k) ((atKey xs (tk k)).map (·.2)) := by
  induction r with
  | nil => exact True.intro
  | @cons p q ps qs h t ih =>
    obtain ⟨h1, _, h2⟩ := h
    have ih := ih fun e m => he e (List.mem_cons_of_mem _ m)
    unfold valT at ih ⊢
    by_cases e : p.1 = k
    · have e' : q.1 = tk k := by rw [← h1, e]
      have b : atKey (q :: qs) (tk k) = some q.2 := by simp [atKey, List.find?_cons, e']
      rw [b, List.find?_cons, show decide (p.1 = k) = true from decide_eq_true e]
      exact h2
    · have e' : ¬ q.1 = tk k := fun z => e (tk_inj (he p (List.mem_cons_self ..)) hk (h1.trans z))
      have b : atKey (q :: qs) (tk k) = atKey qs (tk k) := by simp [atKey, List.find?_cons, e']
      rw [b, List.find?_cons, show decide (p.1 = k) = false from decide_eq_false e]
      exact ih
theorem EV.put {es : List Ent} {xs : List (NestedKey × Addr × Value)} (r : EV es xs) {k : V} {b : Addr} {v : V} {u : Value} (hk : keyOk k = true) (he : ∀ e ∈ es, keyOk e.1 = true) (rv : RelV v u) : EV (putT es k b v) (storedH xs (tk k) b u) := by
  have e : (valT es k).isSome = (atKey xs (tk k)).isSome := by
    rw [(r.val hk he).isSome_eq, Option.isSome_map]
  unfold putT storedH
  rw [e]
  by_cases q : (atKey xs (tk k)).isSome = true
  · rw [if_pos q, if_pos q]
    clear e q
    induction r with
    | nil => exact .nil
    | @cons p q ps qs h t ih =>
      rw [List.map_cons, List.map_cons]
      refine .cons ?_ (ih fun e m => he e (List.mem_cons_of_mem _ m))
      obtain ⟨h1, h2, h3⟩ := h
      unfold putAt
      by_cases e : p.1 = k
      · rw [if_pos e, if_pos (by rw [← h1, e])]
        exact ⟨h1, h2, rv⟩
      · rw [if_neg e, if_neg (fun z => e (tk_inj (he p (List.mem_cons_self ..)) hk (h1.trans z)))]
        exact ⟨h1, h2, h3⟩
  · rw [if_neg q, if_neg q]
    exact Paired.snoc r ⟨rfl, rfl, rv⟩
theorem EV.drop {es : List Ent} {xs : List (NestedKey × Addr × Value)} (r : EV es xs) {k : V} (hk : keyOk k = true) (he : ∀ e ∈ es, keyOk e.1 = true) : EV (dropT es k) (withoutH xs (tk k)) := by
  unfold dropT withoutH
  induction r with
  | nil => exact .nil
  | @cons p q ps qs h t ih =>
    have ih := ih fun e m => he e (List.mem_cons_of_mem _ m)
    obtain ⟨h1, h2, h3⟩ := h
    rw [List.filter_cons, List.filter_cons]
    by_cases e : p.1 = k
    · have a : ¬ decide (p.1 ≠ k) = true := by simp [e]
      have b : ¬ decide (q.1 ≠ tk k) = true := by simp [← h1, e]
      rw [if_neg a, if_neg b]
      exact ih
    · have e' : ¬ q.1 = tk k := fun z => e (tk_inj (he p (List.mem_cons_self ..)) hk (h1.trans z))
      have a : decide (p.1 ≠ k) = true := by simp [e]
      have b : decide (q.1 ≠ tk k) = true := by simp [e']
      rw [if_pos a, if_pos b]
      exact .cons ⟨h1, h2, h3⟩ ih
theorem TabAt.have {P : Program} {w : World} {H : Hp} {h : Heap} {a : Addr} {es : List Ent} (T : TabAt P w H a es) (ok : HOk P w H h) : (a == sysModules) = false ∧ ∃ xs, EV es xs ∧ h.DictOfH (nestedKind P w) a xs := by
  obtain ⟨⟨hs, xs, o, ds, ep, r, h1, h2, h3, h4, h5⟩, _, _⟩ := (show ObjOk P w H h a (TabO P w a es) from ok a _ T.at_)
  refine ⟨hs, xs, r, o, ds, ep, h1, h2, h3, h4, ?_, h5⟩
  have all : ∀ {l : List Ent} {m : List (NestedKey × Addr × Value)}, EV l m → (∀ e ∈ l, keyOk e.1 = true ∧ H e.2.1 = some (.tup [.bl (isB e.1), e.1])) → ∀ x ∈ m, (nestedKind P w).is h x.1 x.2.1 := by
    intro l m q
    induction q with
    | nil => intro _ x hx; exact nomatch hx
    | @cons p q ps qs hq t ih =>
      intro hl x hx
      rcases List.mem_cons.mp hx with e | hx
      · subst e
        have := hl p (List.mem_cons_self ..)
        rw [← hq.1, ← hq.2.1]
        exact key_is ok this.1 this.2
      · exact ih (fun e m => hl e (List.mem_cons_of_mem _ m)) x hx
  exact all r T.keys
/-! ### the rules -/
def KeyAt (H : Hp) (b : Addr) (k : V) : Prop := keyOk k = true ∧ H b = some (.tup [.bl (isB k), k])
theorem TabAt.put {P : Program} {w : World} {H : Hp} {a b : Addr} {es : List Ent} {k v : V} (T : TabAt P w H a es) (hk : KeyAt H b k) (hl : es.length < 1000000) : TabAt P w (upd H a (TabO P w a (putT es k b v))) a (putT es k b v) := by
  have ne : ∀ {c : Addr} {ys : List V}, H c = some (.tup ys) → c ≠ a := fun {c ys} e z => by
    rw [z, T.at_] at e
    cases e
  refine ⟨upd_same, fun e he => ?_, ?_⟩
  · have all : keyOk e.1 = true ∧ H e.2.1 = some (.tup [.bl (isB e.1), e.1]) := by
      unfold putT at he
      split at he
      · obtain ⟨e0, h0, e1⟩ := List.mem_map.mp he
        have := T.keys e0 h0
        split at e1
        · subst e1
          exact this
        · subst e1
          exact this
      · rcases List.mem_append.mp he with he | he
        · exact T.keys e he
        · rw [List.mem_singleton] at he
          subst he
          exact hk
    exact ⟨all.1, by rw [upd_ne (ne all.2)]; exact all.2⟩
  · unfold putT
    split
    · rw [List.length_map]
      exact T.len
    · rw [List.length_append, List.length_singleton]
      omega
theorem TabAt.drop {P : Program} {w : World} {H : Hp} {a : Addr} {es : List Ent} {k : V} (T : TabAt P w H a es) : TabAt P w (upd H a (TabO P w a (dropT es k))) a (dropT es k) := by
  have ne : ∀ {c : Addr} {ys : List V}, H c = some (.tup ys) → c ≠ a := fun {c ys} e z => by
    rw [z, T.at_] at e
    cases e
  refine ⟨upd_same, fun e he => ?_, Nat.le_trans (List.length_filter_le _ _) T.len⟩
  have := T.keys e (List.mem_filter.mp he).1
  exact ⟨this.1, by rw [upd_ne (ne this.2)]; exact this.2⟩
theorem TabAt.mono {P : Program} {w : World} {H H' : Hp} {a : Addr} {es : List Ent} (T : TabAt P w H a es) (h1 : H' a = H a) (h2 : ∀ c ys, H c = some (.tup ys) → H' c = some (.tup ys)) : TabAt P w H' a es :=
  ⟨h1.trans T.at_, fun e he => ⟨(T.keys e he).1, h2 _ _ (T.keys e he).2⟩, T.len⟩
theorem sz_ok {es : List Ent} {xs : List (NestedKey × Addr × Value)} (r : EV es xs) (h : es.length ≤ 1000000) : xs.length ≤ sizeLine := by
  rw [← Paired.length r, sizeLine_eq]
  omega
section
variable {X : Cx} {o i value : Expr} {pos pos' tpos : Pos} {td ty tv : TE}
end
end XT
/-! own text: the values of such a dict, as a list -/
namespace XT
open PySem PySem.Spec PyProof.Rows L2
def ViewO (d v : Addr) : HO := .ext fun h => h.IsValuesView v d
theorem EV.vals {es : List Ent} {xs : List (NestedKey × Addr × Value)} (r : EV es xs) : Vals (es.map (·.2.2)) (xs.map (·.2.2)) := by
  induction r with
  | nil => exact .nil
  | cons h t ih => exact .cons h.2.2 ih
section
variable {prog : Program} {w : World} {A : Around} {E : Value → Shared → Prop} {s : Shared}
theorem meets_vals (d : Addr) (hd : (d == sysModules) = false) :
    MeetsIn prog w (Builtin.«dict.values» ⟨[.ref d], []⟩) (fun _ R s => s.TypeIs (.ref d) "dict" ∧
      R (.ok (.ret (.ref s.heap.objs.size))) { s with heap := s.heap.push { cls := .type "dict_values", data := .fields #[.ref d] } }) :=
  .of_wp fun A R s ⟨hm, h⟩ => by
    refine wpAny_bind ?_
    unfold Builtin.Dict.noArgs
    refine wpAny_bind (wpAny_notOrdered_dict hm ?_)
    show wpAny _ _ (pure d) _ _ s
    refine wpAny_pure ?_
    show wpAny _ _ (Builtin.Dict.showsAll d >>= _) _ _ s
    unfold Builtin.Dict.showsAll
    rw [if_neg (by rw [hd]; exact Bool.false_ne_true)]
    refine wpAny_bind (wpAny_pure ?_)
    exact wpAny_bind (wpAny_newObj_type (wpAny_pure ⟨_, rfl, h⟩))
end
section
variable {X : Cx} {o : Expr} {to : TE} {apos cpos : Pos}
def tTVals (P : Program) (w : World) (to : TE) : TE := fun σ H Q => to σ H fun x H1 => ∃ a es, x = .ref a ∧ TabAt P w H1 a es ∧ ∀ v, H1 v = none → Q (.ref v) (upd H1 v (ViewO a v))
theorem pe_tvals (ho : PE X o to) (hbase : attributeBase o "values" X.env (eval o X.env) = eval o X.env := by rfl) (hline : (apos.endLine == cpos.line) = true := by rfl) : PE X (.Call (.Attribute o "values" apos) [] [] cpos) (tTVals X.prog X.w to) := by
  refine ⟨fun pins s σ H Q I h => ?_⟩
  refine wpAny_Call_method0_late hbase hline (thn (ho.run pins s σ H _ I h) fun v s1 ⟨x, H1, I1, r1, a, es, ex, T, q1⟩ => ?_)
  subst ex
  obtain rfl : v = Value.ref a := r1
  obtain ⟨hd, xs, r, dd⟩ := T.have I1.hok
  refine ⟨"dict", "dict.values", PySem.F.plainAttrs_dict, PySem.F.slot_dict_values, PySem.F.type_dict_values, dd.typeIs, fun b e => ?_, Calls.callWith_builtin rfl (PySem.evalArgs_none ?_)⟩
  · cases e
    obtain ⟨ob, _, _, h1, h2, _⟩ := dd
    exact ⟨ob, h1, h2.2.1⟩
  refine call_meetsIn PySem.F.slot_dict_values dd.typeIs PySem.F.entry_dict_values (PySem.F.args_dict_values_1 _) (meets_vals a hd) ⟨dd.typeIs, ?_⟩
  have hv : (s1.heap.push { cls := .type "dict_values", data := .fields #[.ref a] }).IsValuesView s1.heap.objs.size a := ⟨_, Heap.get?_push_size _ rfl, rfl, rfl⟩
  refine ⟨.ref s1.heap.objs.size, _, I1.laid (a := s1.heap.objs.size) (o := ViewO a s1.heap.objs.size) (t' := s1.toks) (fun _ _ q => Heap.get?_push_of_some _ q) (Nat.le_refl _) ?_, rfl, q1 _ (I1.hok.fresh (Nat.le_refl _))⟩
  exact ⟨hv, ⟨_, Heap.get?_push_size _ rfl⟩, fun g1 g2 ⟨ob, k1, k2⟩ st => ⟨ob, st _ k1, k2⟩⟩
/-- list(d.values()) -/
theorem call_list_vals (hc : X.calm = true) : CallR X (.type "list") (fun vs H Q => ∃ v a es, vs = [.ref v] ∧ H v = some (ViewO a v) ∧ TabAt X.prog X.w H a es ∧ ∀ l, H l = none → Q (.ref l) (upd H l (.lst (es.map (·.2.2))))) := by
  intro pins s σ H vs us Q I rv h
  obtain ⟨v, a, es, rfl, hv, T, q⟩ := h
  obtain ⟨u, rfl, ru⟩ := rv.one
  obtain rfl : u = Value.ref v := ru
  obtain ⟨hd, xs, r, ob, ds, ep, h1, h2, h3, h4, h5, h6⟩ := T.have I.hok
  obtain ⟨hview, _, _⟩ := (show ObjOk X.prog X.w H s.heap v (ViewO a v) from I.hok v _ hv)
  have hview : s.heap.IsValuesView v a := hview
  have hsz : ds.size = xs.length := by
    rw [← Array.length_toList, h4, List.length_map]
  have hz := sz_ok r T.len
  refine W.kdl_call PySem.KdlSrc.rawValues (I.ok.hd hc) ⟨hview, ob, h1, h2, h3⟩ (by omega) fun h' tk acc' c' hk hS hacc => ?_
  have ea : acc'.toList = xs.map (·.2.2) := by
    refine List.ext_getElem? fun j => ?_
    by_cases hj : j < ds.size
    · have hj' : j < acc'.size := by rw [hacc.1]; exact hj
      obtain ⟨hi, e⟩ := hacc.2 j acc'[j] (by rw [Array.getElem?_eq_getElem hj'])
      have e2 : ds.toList[j]? = (xs.map (entryOfKey (nestedKind X.prog X.w)))[j]? := by rw [h4]
      rw [List.getElem?_map, Array.getElem?_toList, Array.getElem?_eq_getElem hj] at e2
      rw [Array.getElem?_toList, Array.getElem?_eq_getElem hj', e, List.getElem?_map]
      cases hx : xs[j]? with
      | none => rw [hx] at e2; cases e2
      | some x =>
        rw [hx] at e2
        rw [Option.some.inj e2]
        rfl
    · rw [List.getElem?_eq_none (by rw [Array.length_toList, hacc.1]; omega), List.getElem?_eq_none (by rw [List.length_map]; omega)]
  refine ⟨.ref s.heap.objs.size, _, I.laid (t' := tk) hk (Nat.le_refl _) (show ObjOk X.prog X.w _ h' _ (.lst (es.map (·.2.2))) from ⟨?_, acc'.toList, c', ?_, ?_⟩), rfl, q _ (I.hok.fresh (Nat.le_refl _))⟩
  · rw [List.length_map, Paired.length r]
    exact hz
  · rw [ea]
    exact r.vals
  · rw [Array.toArray_toList]
    exact hS
end
end XT
/-! own text: an own exception with an __init__ of its own as a value that is kept -/
namespace XE
open PySem PySem.Spec PyProof.Rows L2
/-- the exception at a, of the class at C, its dict at d -/
structure ExAt (H : Hp) (a C d : Addr) (fs : List (Str × V)) : Prop where
  e : H a = some (exo a C (some d))
  d : H d = some (exd d fs)
section
variable {X : Cx} {e : Expr} {es : List Expr} {ta : TA} {te : TE} {p pos : Pos}
end
end XE
/-! own text: del xs[lo:hi] of a list -/
namespace XD
open PySem PySem.Spec PyProof.Rows L2
open Sem (wp)
section
variable {prog : Program} {w : World} {A : Around} {E : Value → Shared → Prop} {s : Shared}
end
variable {X : Cx} {o : Expr} {to : TE} {lo hi : Option Expr} {tl th : TO} {tpos p2 pos : Pos}
end XD
/-! own text: list(x) of a text -/
namespace XL
open PySem PySem.Spec PyProof.Rows L2 PySem.W
open Sem (wp)
section
variable {prog : Program} {w : World} {A : Around} {E : Value → Shared → Prop} {s : Shared} {x : Str} {t : Tok}
end
/-- the signs of a text, as texts -/
def signs (x : Str) : List Str := x.cps.toList.map fun c => ⟨#[c]⟩
end XL
/-! own text: a call of a local name that holds one of several defs, with starred arguments or not, which may raise -/
namespace XS
open PySem PySem.Spec PyProof.Rows L2
/-- what the slot may hold: a def with its promise; what it raises is told at the slots -/
structure HeldX (P : Program) (w : World) (K : PySem.W.Frag) (mg : Str → Option Value) (base : Heap) (k : Nat) (f : Addr) (sp : Sp) : Prop where
  ex : ∃ (fd : FuncData) (ps : List Str), FnOk P w K mg base (L2.CX P w) k f fd ps sp ∧ PySem.W.keepIn K (.ref f) = true ∧ Binds K fd ps []
def tCallX (i : Nat) (S : Addr → Option Sp) (E : L2.St → XK) (t : TA) : TE := fun σ H Q => ∃ f sp, σ[i]? = some (some (.ref f)) ∧ S f = some sp ∧ t σ H fun vs H1 => sp vs H1 Q (E σ)
section
variable {X : Cx} {k i : Nat} {S : Addr → Option Sp} {E : L2.St → XK} {x : Str} {p pos : Pos} {e : Expr} {es : List Expr} {t : TA}
/-- x(e, .., *y) -/
theorem pe_callXS (A : ∀ f sp, S f = some sp → HeldX X.prog X.w X.K X.mg X.base k f sp) (hr : Room k X.A) (hN : X.N[i]? = some x) (hv : Vis X.env.scope x) (hx : ∀ σ, PassesAt (L2.CX X.prog X.w) X σ (E σ)) (ha : PA X (e :: es) t)
    (hdb : (x == ("__debug__" : Str)) = false := by decide) (hcd : (x == ("__classdict__" : Str)) = false := by decide)
    (he : starEach (e :: es) X.env = (false, eval e X.env) :: starEach es X.env := by rfl) (hst : (backTo pos (starEach es X.env)).any (·.1) = true := by rfl) : PE X (.Call (.Name x p) (e :: es) [] pos) (tCallX i S E t) := by
  refine ⟨fun pins s σ H Q I h => ?_⟩
  obtain ⟨f, sp, hs, hS, ht⟩ := h
  obtain ⟨fd, ps, F, hk, hb⟩ := (A f sp hS).ex
  refine wpAny_Call_Name_kw (thn ((pe_var (pos := p) hN hv hdb hcd).run pins s σ H (fun v H1 => v = .ref f ∧ H1 = H) I ⟨.ref f, hs, rfl, rfl⟩) fun u s1 ⟨v, H1, I1, r1, q1⟩ => ?_)
  obtain ⟨rfl, rfl⟩ := q1
  cases r1
  refine PySem.W.callWith_S2 (h₀ := X.base) I.ok.mod.kin hk (thn (ha.run pos pins s1 σ _ _ I1 ht) fun us s2 ⟨vs, H2, I2, r, q⟩ => ⟨I2.kIn, ?_⟩) he hst
  exact run_fnS F hr hb (hx σ) I2 r q
end
end XS
/-! own text: zip of a list and a tuple -/
namespace XZ
open PySem PySem.Spec PyProof.Rows L2
open PySem.Sem (wp)
abbrev mH1 (h : Heap) (l1 : Addr) : Heap := h.push { cls := .type "list_iterator", data := .fields #[.ref l1, .int 0 0] }
abbrev mH2 (h : Heap) (l1 l2 : Addr) : Heap := (mH1 h l1).push { cls := .type "tuple_iterator", data := .fields #[.ref l2, .int 0 0] }
abbrev mH3 (h : Heap) (l1 l2 : Addr) : Heap := (mH2 h l1 l2).push { cls := .type "tuple", data := .seq #[.ref h.objs.size, .ref (mH1 h l1).objs.size] }
abbrev mH4 (h : Heap) (l1 l2 : Addr) : Heap := (mH3 h l1 l2).push { cls := .type "tuple", data := .seq #[.none, .none] }
abbrev mH5 (h : Heap) (l1 l2 : Addr) : Heap := (mH4 h l1 l2).push { cls := .type "zip", data := .fields #[.none, .bool false, .bool false, .ref (mH2 h l1 l2).objs.size, .ref (mH3 h l1 l2).objs.size] }
theorem meets_new (l1 l2 : Addr) (xs ys : Array Value) :
    Meets (Builtin.«zip.__new__» ⟨[.type "zip", .ref l1, .ref l2], []⟩) (fun _ R s => s.heap.IsList l1 xs ∧ s.heap.IsTuple l2 ys ∧
      R (.ok (.ret (.ref (mH4 s.heap l1 l2).objs.size))) { s with heap := mH5 s.heap l1 l2 }) :=
  .of_wp fun prog w A R s h => by
    obtain ⟨hp, g, d, tk, os⟩ := s; obtain ⟨hl1, hl2, h⟩ := h
    have hsub := sub_zip
    have hL1 : Heap.IsList (Shared.heap ⟨hp, g, d, tk, os⟩) l1 xs := hl1
    have hL2 : Heap.IsTuple (Shared.heap ⟨hp.push { cls := .type "list_iterator", data := .fields #[.ref l1, .int 0 0] }, g, d, tk, os⟩) l2 ys := Heap.IsTuple.push hl2 _
    wp_walk using wpAny_pyIter_list hL1, wpAny_pyIter_tuple hL2
    exact ⟨_, rfl, h⟩
section
variable {prog : Program} {w : World} {A : Around} {E : Value → Shared → Prop} {s : Shared}
theorem call_zipM {l1 l2 : Addr} {xs ys : Array Value} {Q : Value → Shared → Prop} (hl1 : s.heap.IsList l1 xs) (hl2 : s.heap.IsTuple l2 ys)
    (h : ∀ h', IsZip h' (s.heap.objs.size + 4) (s.heap.objs.size + 2) (s.heap.objs.size + 3) .none → IsPair h' (s.heap.objs.size + 2) (.ref s.heap.objs.size) (.ref (s.heap.objs.size + 1)) →
      IsPair h' (s.heap.objs.size + 3) .none .none → h'.IsListIter s.heap.objs.size l1 0 → h'.IsTupleIter (s.heap.objs.size + 1) l2 0 → h'.objs.size = s.heap.objs.size + 5 →
      (∀ c o, s.heap.get? c = some o → h'.get? c = some o) → Q (.ref (s.heap.objs.size + 4)) { s with heap := h' }) :
    wpAny (model prog w) A (call (.type "zip") [.ref l1, .ref l2]) Q E s := by
  refine callType_new F.called_zip (by decide) (F.typeCall_zip_2 _ _) (F.newCall_zip_2 _ _) (fun obj => F.args_object_init_3 obj _ _) F.entry_zip_new
    (meets_new l1 l2 xs ys) ⟨hl1, hl2, ?_⟩
  have z1 : (mH1 s.heap l1).objs.size = s.heap.objs.size + 1 := Heap.size_push ..
  have z2 : (mH2 s.heap l1 l2).objs.size = s.heap.objs.size + 2 := by rw [Heap.size_push, z1]
  have z3 : (mH3 s.heap l1 l2).objs.size = s.heap.objs.size + 3 := by rw [Heap.size_push, z2]
  have z4 : (mH4 s.heap l1 l2).objs.size = s.heap.objs.size + 4 := by rw [Heap.size_push, z3]
  have z5 : (mH5 s.heap l1 l2).objs.size = s.heap.objs.size + 5 := by rw [Heap.size_push, z4]
  have g5 : (mH5 s.heap l1 l2).get? (mH4 s.heap l1 l2).objs.size = some _ := Heap.get?_push_size _ rfl
  have g4 : (mH5 s.heap l1 l2).get? (mH3 s.heap l1 l2).objs.size = some _ := Heap.get?_push_of_some _ (Heap.get?_push_size _ rfl)
  have g3 : (mH5 s.heap l1 l2).get? (mH2 s.heap l1 l2).objs.size = some _ := Heap.get?_push_of_some _ (Heap.get?_push_of_some _ (Heap.get?_push_size _ rfl))
  have g2 : (mH5 s.heap l1 l2).get? (mH1 s.heap l1).objs.size = some _ := Heap.get?_push_of_some _ (Heap.get?_push_of_some _ (Heap.get?_push_of_some _ (Heap.get?_push_size _ rfl)))
  have g1 : (mH5 s.heap l1 l2).get? s.heap.objs.size = some _ := Heap.get?_push_of_some _ (Heap.get?_push_of_some _ (Heap.get?_push_of_some _ (Heap.get?_push_of_some _ (Heap.get?_push_size _ rfl))))
  show _ ∧ _
  rw [z2, z3, z4] at g5
  rw [z1, z2] at g3
  rw [z3] at g4
  rw [z1] at g2
  rw [z4]
  exact ⟨⟨_, g5, rfl⟩, h _ g5 g3 g4 ⟨_, g1, rfl, rfl⟩ ⟨_, g2, rfl, rfl⟩ z5 fun c o x =>
    Heap.get?_push_of_some _ (Heap.get?_push_of_some _ (Heap.get?_push_of_some _ (Heap.get?_push_of_some _ (Heap.get?_push_of_some _ x))))⟩
end
/-- the list at a and the tuple at b, the items in new pairs -/
def ItzM (K : PySem.W.Frag) (a b : Addr) : It :=
  ⟨fun i H => ∃ (xs ys : List V) (x y : V), SqL K H a xs ∧ SqT K H b ys ∧ xs[i]? = some x ∧ ys[i]? = some y,
    fun i H v H' => ∃ T x y, v = .ref T ∧ H T = none ∧ H' = upd H T (.tup [x, y]) ∧ (∀ xs, SqL K H a xs → xs[i]? = some x) ∧ ∀ ys, SqT K H b ys → ys[i]? = some y,
    fun i H => ∃ xs ys : List V, SqL K H a xs ∧ SqT K H b ys ∧ xs.length = i ∧ ys.length = i⟩
theorem sep2 {a b z TI TO i1 i2 : Addr} (D : ZipApart z TI TO i1 i2 a b) : ZipSep2 z TI TO i1 i2 [i1, a] [i2, b] where
  TIz := D.TIz
  TOz := D.TOz
  TITO := D.TITO
  TIi1 := D.TIi1
  mem1 := by simp
  zf1 := by simp [D.i1z.symm, D.l1z.symm]
  Tf1 := by simp [D.TOi1, D.l1TO.symm]
  TIi2 := D.TIi2
  mem2 := by simp
  zf2 := by simp [D.i2z.symm, D.l2z.symm]
  Tf2 := by simp [D.TOi2, D.l2TO.symm]
  sep1_2 := by simp [D.i12, D.l2i1.symm]
  sep2_1 := by simp [D.i12.symm, D.l1i2.symm]
theorem turn_zipM {P : Program} {w : World} {K : PySem.W.Frag} {elts : List Expr} {kk : Nat} {tpos : Pos} {a b z TI TO i1 i2 : Addr} (D : ZipApart z TI TO i1 i2 a b) :
    Turn P w K (.Tuple elts kk tpos) (ItzM K a b) [z, TI, TO, i1, i2] z (fun i h => IsZip h z TI TO .none ∧ IsPair h TI (.ref i1) (.ref i2) ∧ (∃ x y, IsPair h TO x y) ∧ h.IsListIter i1 a i ∧ h.IsTupleIter i2 b i) where
  mem := by simp
  obj := fun i h st c hc => by
    obtain ⟨hz, hTI, ⟨x, y, hTO⟩, ⟨o1, e1, _, d1⟩, ⟨o2, e2, _, d2⟩⟩ := st
    have e' : c = z ∨ c = TI ∨ c = TO ∨ c = i1 ∨ c = i2 := by simpa using hc
    rcases e' with q | q | q | q | q
    · rw [q]; exact ⟨_, hz, fun v q => nomatch q⟩
    · rw [q]; exact ⟨_, hTI, fun v q => nomatch q⟩
    · rw [q]; exact ⟨_, hTO, fun v q => nomatch q⟩
    · rw [q]; exact ⟨o1, e1, fun v q => by rw [d1] at q; cases q⟩
    · rw [q]; exact ⟨o2, e2, fun v q => by rw [d2] at q; cases q⟩
  keep := fun i h h' st k => by
    obtain ⟨hz, hTI, ⟨x, y, hTO⟩, h1, h2⟩ := st
    exact ⟨k z (by simp) _ hz, k TI (by simp) _ hTI, ⟨x, y, k TO (by simp) _ hTO⟩, h1.at fun o q => k i1 (by simp) o q, h2.at fun o q => k i2 (by simp) o q⟩
  item := by
    intro X hP hw hK hc i pins s σ H E I hf st hg
    subst hP hw hK
    obtain ⟨hz, hTI, ⟨x0, y0, hTO⟩, h1, h2⟩ := st
    obtain ⟨xs, ys, x, y, hqx, hqy, hx, hy⟩ := hg
    obtain ⟨its, rv, p, _⟩ := I.list hqx
    obtain ⟨its2, rv2, p2, _⟩ := I.tuple hqy
    obtain ⟨u, hu, ru⟩ := rv.get hx
    obtain ⟨u2, hu2, ru2⟩ := rv2.get hy
    have hzl : z < s.heap.objs.size := Heap.lt_size hz
    have lt1 : i < its.toArray.size := by
      have := (List.getElem?_eq_some_iff.mp hu).1
      simpa using this
    have lt2 : i < its2.toArray.size := by
      have := (List.getElem?_eq_some_iff.mp hu2).1
      simpa using this
    refine PySem.wpAny_pyNext_zipD2_item (sep2 D) (Draws.list (A := X.A.in1) (I.ok.hd hc) i1 a D.l1i1 its.toArray) (Draws.tuple (A := X.A.in1) (I.ok.hd hc) i2 b D.l2i2 its2.toArray) hz hTI hTO ⟨h1, p.isList⟩ ⟨h2, p2⟩ lt1 lt2 fun x1 x2 h' tk e1 e2 z' TO' st1 st2 hT hsz hk => ?_
    have ex1 : x1 = u := by
      have h3 : its[i]? = some x1 := by simpa using e1
      rw [hu] at h3
      exact (Option.some.inj h3).symm
    have ex2 : x2 = u2 := by
      have h3 : its2[i]? = some x2 := by simpa using e2
      rw [hu2] at h3
      exact (Option.some.inj h3).symm
    subst ex1 ex2
    refine ⟨_, rfl, wpAny_letOwnedTupleGo_zip (s := { s with heap := h', toks := tk }) z' fun h'' z'' sb => ?_⟩
    have hT2 : h''.get? s.heap.objs.size = some { cls := .type "tuple", data := .seq #[x1, x2] } := (sb.2 _ (Nat.ne_of_gt hzl)).trans hT
    have new : ObjOk X.prog X.w (upd H s.heap.objs.size (.tup [x, y])) h'' s.heap.objs.size (.tup [x, y]) :=
      ⟨by show 2 ≤ sizeLine; decide, [x1, x2], .cons ru (.cons ru2 .nil), ⟨_, hT2, rfl, _, rfl⟩⟩
    have I1 : Inv X pins σ (upd H s.heap.objs.size (.tup [x, y])) { s with heap := h'', toks := tk } :=
      I.turnedNew (t' := tk) (ch := [z, TI, TO, i1, i2]) (fun c o hb q => (sb.2 c (fun q' => hb (by simp [q']))).trans (hk c o (fun q' => hb (by simp [q'])) (fun q' => hb (by simp [q'])) (fun q' => hb (by simp [q'])) (fun q' => hb (by simp [q'])) q)) hf (Nat.le_refl _) new
    refine ⟨.ref s.heap.objs.size, _, I1, rfl, ⟨_, x, y, rfl, I.hok.fresh (Nat.le_refl _), rfl, fun l hl => by rw [I.list_inj hl hqx]; exact hx, fun l hl => by rw [I.tuple_inj hl hqy]; exact hy⟩, ⟨z'', ?_, ⟨x1, x2, ?_⟩, ?_, ?_⟩, fun c hcm => ?_⟩
    · exact (sb.2 _ D.TIz).trans (hk _ _ D.TIz D.TITO D.TIi1 D.TIi2 hTI)
    · exact (sb.2 _ D.TOz).trans TO'
    · exact st1.1.at fun o q => (sb.2 _ D.i1z).trans q
    · exact st2.1.at fun o q => (sb.2 _ D.i2z).trans q
    · have hlt : c < s.heap.objs.size := by
        have e' : c = z ∨ c = TI ∨ c = TO ∨ c = i1 ∨ c = i2 := by simpa using hcm
        rcases e' with q | q | q | q | q
        · rw [q]; exact hzl
        · rw [q]; exact Heap.lt_size hTI
        · rw [q]; exact Heap.lt_size hTO
        · rw [q]; obtain ⟨_, e1, _⟩ := h1; exact Heap.lt_size e1
        · rw [q]; obtain ⟨_, e2, _⟩ := h2; exact Heap.lt_size e2
      rw [upd_ne (Nat.ne_of_lt hlt)]
      exact (hf c hcm).1
  done := by
    intro X hP hw hK hc i pins s σ H E I hf st hg
    subst hP hw hK
    obtain ⟨hz, hTI, ⟨x0, y0, hTO⟩, h1, h2⟩ := st
    obtain ⟨xs, ys, hqx, hqy, l1, l2⟩ := hg
    obtain ⟨its, rv, p, _⟩ := I.list hqx
    obtain ⟨its2, rv2, p2, _⟩ := I.tuple hqy
    have m1 := rv.length
    have m2 := rv2.length
    have n1 : its.toArray.size = i := by simp; omega
    have n2 : its2.toArray.size = i := by simp; omega
    exact PySem.wpAny_pyNext_zipD2_end (sep2 D) (Draws.list (A := X.A.in1) (I.ok.hd hc) i1 a D.l1i1 its.toArray) (Draws.tuple (A := X.A.in1) (I.ok.hd hc) i2 b D.l2i2 its2.toArray) hz hTI hTO ⟨h1, p.isList⟩ ⟨h2, p2⟩ (Nat.le_of_eq n1.symm) (Nat.le_of_eq n2.symm) (.inl n1.symm) fun h' tk hk => ⟨rfl, I.turnedL (t' := tk) (ch := [z, TI, TO, i1, i2]) (fun c o hb q =>
      hk c o (fun q' => hb (by simp [q'])) (fun q' => hb (by simp [q'])) (fun q' => hb (by simp [q'])) (fun q' => hb (by simp [q'])) q) hf⟩
  self := fun A i s Q E st h => wpAny_pyIter_zip st.1 h
def iZipM (K : PySem.W.Frag) (ta : TA) : TI := fun σ H R => ta σ H fun vs H1 => ∃ a b xs ys, vs = [.ref a, .ref b] ∧ SqL K H1 a xs ∧ SqT K H1 b ys ∧ R (ItzM K a b) H1
theorem pi_zipM {X : Cx} {e e2 : Expr} {ta : TA} {p pos tpos : Pos} {elts : List Expr} {kk : Nat} (hg : Gl X "zip") (hm : X.mg "zip" = none) (ha : PA X [e, e2] ta)
    (hs : starEach [e, e2] X.env = (false, eval e X.env) :: starEach [e2] X.env := by rfl) (hpl : (backTo pos (starEach [e2] X.env)).any (·.1) = false := by rfl) :
    PI X (.Tuple elts kk tpos) (.Call (.Name "zip" p) [e, e2] [] pos) (iZipM X.K ta) := by
  refine ⟨fun pins s σ H R I h => ?_⟩
  refine Call_ (ld_blt I hg hm PyProof.Rows.boot_zip (PyProof.Rows.callWith_type1 (thn (ha.run pos pins s σ H _ I h) fun us s1 ⟨vs, H1, I1, r1, q1⟩ => ?_) hs hpl))
  obtain ⟨a, b, xs, ys, ex, hqx, hqy, q⟩ := q1
  subst ex
  cases r1 with
  | cons r rr =>
    cases rr with
    | cons r' rr =>
      cases rr
      cases r
      cases r'
      have fresh5 : ∀ c, c ∈ [s1.heap.objs.size + 4, s1.heap.objs.size + 2, s1.heap.objs.size + 3, s1.heap.objs.size, s1.heap.objs.size + 1] → FpOk X pins H1 c := fun c hcm => by
        have e' : c = s1.heap.objs.size + 4 ∨ c = s1.heap.objs.size + 2 ∨ c = s1.heap.objs.size + 3 ∨ c = s1.heap.objs.size ∨ c = s1.heap.objs.size + 1 := by simpa using hcm
        have hle : s1.heap.objs.size ≤ c := by
          rcases e' with z | z | z | z | z
          · rw [z]; exact Nat.le_add_right _ _
          · rw [z]; exact Nat.le_add_right _ _
          · rw [z]; exact Nat.le_add_right _ _
          · rw [z]; exact Nat.le_refl _
          · rw [z]; exact Nat.le_add_right _ _
        exact I1.fpOk hle (I1.hok.fresh hle)
      obtain ⟨its, rv, p1, _⟩ := I1.list hqx
      obtain ⟨its2, rv2, p2, _⟩ := I1.tuple hqy
      obtain ⟨o2, ho2, _⟩ := id p2
      refine call_zipM p1.isList (show s1.heap.IsTuple b its2.toArray from p2) fun h' hz hTI hTO h1 h2 hsz hk => wpAny_pyIter_zip hz ?_
      have I2 : Inv X pins σ H1 { s1 with heap := h' } := I1.kept (t' := s1.toks) hk
      exact ⟨s1.heap.objs.size + 4, [s1.heap.objs.size + 4, s1.heap.objs.size + 2, s1.heap.objs.size + 3, s1.heap.objs.size, s1.heap.objs.size + 1], _, _, H1, rfl, I2, turn_zipM (PySem.W.ktu_apart s1.heap.objs.size a b p1.lt (Heap.lt_size ho2)), ⟨hz, hTI, ⟨_, _, hTO⟩, h1, h2⟩, fresh5, q⟩
theorem for_zipM {K : PySem.W.Frag} {a b : Addr} {xs ys : List V} {g : TG} {tb : TS} {D : Ends} {σ : L2.St} {H : Hp} (hl : xs.length = ys.length) (Pv : Nat → L2.St → Hp → Prop) (h0 : Pv 0 σ H) (hq : ∀ i σ H, Pv i σ H → SqL K H a xs ∧ SqT K H b ys)
    (hs : ∀ (i : Nat) (x y : V) (T : Addr) (σ : L2.St) (H : Hp), xs[i]? = some x → ys[i]? = some y → Pv i σ H → H T = none → g (.ref T) σ (upd H T (.tup [x, y])) fun σ2 H2 => tb { D with nx := Pv (i + 1), ct := Pv (i + 1), bk := D.nx } σ2 H2) (hd : ∀ σ H, Pv xs.length σ H → D.nx σ H) :
    ∃ W : Nat → Nat → L2.St → Hp → Prop, (∃ m, W 0 m σ H) ∧ ∀ i m σ H, W i m σ H →
      ((ItzM K a b).stop i H ∧ D.nx σ H) ∨ ((ItzM K a b).go i H ∧ ∃ N : L2.St → Hp → Prop, (∀ σ' H', N σ' H' → ∃ m', m' < m ∧ W (i + 1) m' σ' H') ∧ ∀ v H', (ItzM K a b).yld i H v H' → g v σ H' fun σ2 H2 => tb { D with nx := N, ct := N, bk := D.nx } σ2 H2) := by
  refine ⟨fun i m σ H => m = xs.length - i ∧ i ≤ xs.length ∧ Pv i σ H, ⟨xs.length, rfl, Nat.zero_le _, h0⟩, ?_⟩
  rintro i m σ H ⟨rfl, hi, p⟩
  obtain ⟨qx, qy⟩ := hq i σ H p
  by_cases hlt : i < xs.length
  · have hx : xs[i]? = some xs[i] := List.getElem?_eq_getElem hlt
    have hlt2 : i < ys.length := by omega
    have hy : ys[i]? = some ys[i] := List.getElem?_eq_getElem hlt2
    refine .inr ⟨⟨xs, ys, _, _, qx, qy, hx, hy⟩, Pv (i + 1), fun σ' H' p' => ⟨xs.length - (i + 1), by omega, rfl, hlt, p'⟩, fun v H' y => ?_⟩
    obtain ⟨T, x', y', rfl, hT, rfl, f1, f2⟩ := y
    exact hs i x' y' T σ H (f1 xs qx) (f2 ys qy) p hT
  · have e : i = xs.length := by omega
    subst e
    exact .inl ⟨⟨xs, ys, qx, qy, rfl, hl.symm⟩, hd σ H p⟩
end XZ
namespace XQ
open PySem PySem.Spec PyProof.Rows L2 CwR PySem.StrLaws
section
variable {P : Program} {w : World} {K : PySem.W.Frag} {mg : Str → Option Value} {base : Heap}
/-- as Fun.ok; a token is out when the body begins -/
theorem okT {x qual : Str} {st : Stmt} {f : Addr} {fd : FuncData} {N ps : List Str} {k : Nat} {sp : Sp} (F : Fun K x qual st f fd) (S : FnScope N ps (defScope st)) (hnc : ∀ y ∈ (defScope st).names, y.2 ≠ .cell) (hps : 1 ≤ ps.length) (len : ∀ vs H Q E, sp vs H Q E → vs.length = ps.length)
    (hbody : ∀ (cdv : Value) (A : Around) (outer : List Env) (s : Shared) (H : Hp) (vs : List V) (Q : VK) (E : XK), Room k (A.deeper (envOfC qual (defScope st) s.heap.objs.size f cdv)) → sp vs H Q E →
      ∃ t, PSsT (cxOf CX0 P w K mg base N qual (defScope st) f cdv A outer s H E) (defBody st) t ∧ t { nx := fun _ H' => Q .non H', rt := Q } (start N vs) H) : FnOk P w K mg base CX0 (k + 1) f fd ps sp := by
  obtain ⟨oc, od, kV, doc, pm, an, cdv, ct, osl, rfl, lk, hcd⟩ := F.ex
  exact fn_ofT lk hcd S hnc hps len fun A outer s H vs Q E hr hsp => hbody cdv A outer s H vs Q E hr hsp
end
section
variable {X : Cx}
theorem pst_set {i : Nat} {x : Str} {e : Expr} {te : TE} {pos pos' : Pos} (hN : X.N.Nodup) (hi : X.N[i]? = some x) (hx : Loc X.env.scope x) (he : PET X e te) (hs : swapsWith e (some (.Name x pos')) pos.line X.env = pure false := by rfl) (hf : X.fn x = true ∨ X.env.scope.names.lookup x = some .local := by first | exact .inl rfl | exact .inr rfl | assumption) :
    PST X (.Assign [.Name x pos'] e pos) (tAsg te (gName i)) := by
  intro pins s σ H D h0 I h
  refine wpAny_Assign_Name (thn (he pins s σ H _ h0 I h) fun v s1 ⟨y, H1, I1, r1, q1⟩ => ?_) hs
  exact store_ok I1 hN hi hx r1 (fun s2 I2 => ⟨_, H1, I2, q1⟩) hf
end
/-- a text as it is quoted -/
def qText (x : Str) : Str := ("\"" : Str) ++ Txt.replace (Txt.replace (Txt.replace x "\\" "\\\\") "\"" "\\\"") "\n" "\\n" ++ ("\"" : Str)
def escC (c : Nat) : List Nat := if c = 92 then [92, 92] else if c = 34 then [92, 34] else if c = 10 then [92, 110] else [c]
theorem repl_one (c : Nat) (z : List Nat) : ∀ l : List Nat, replL [c] z l = l.flatMap fun d => if d = c then z else [d]
  | [] => replL_nil
  | d :: r => by
    by_cases h : d = c
    · subst h
      rw [replL_hit (by simp) (by simp), List.flatMap_cons, if_pos rfl, ← repl_one d z r]
      rfl
    · rw [replL_miss (by simpa using h), List.flatMap_cons, if_neg h, ← repl_one c z r]
      rfl
theorem qText_list (x : Str) : (qText x).cps.toList = 34 :: (x.cps.toList.flatMap escC ++ [34]) := by
  have app : ∀ a b : Str, (a ++ b).cps.toList = a.cps.toList ++ b.cps.toList := fun a b => by
    show (a.cps ++ b.cps).toList = _
    rw [Array.toList_append]
  unfold qText
  rw [app, app, replace_list (by decide +kernel), replace_list (by decide +kernel), replace_list (by decide +kernel)]
  rw [show (("\n" : Str)).cps.toList = [10] by decide +kernel, show (("\\n" : Str)).cps.toList = [92, 110] by decide +kernel, show (("\"" : Str)).cps.toList = [34] by decide +kernel, show (("\\\"" : Str)).cps.toList = [92, 34] by decide +kernel, show (("\\" : Str)).cps.toList = [92] by decide +kernel, show (("\\\\" : Str)).cps.toList = [92, 92] by decide +kernel]
  rw [repl_one, repl_one, repl_one, List.flatMap_assoc, List.flatMap_assoc]
  show 34 :: ([] ++ _ ++ _) = _
  rw [List.nil_append]
  congr 3
  funext d
  unfold escC
  by_cases h1 : d = 92
  · subst h1; rfl
  · by_cases h2 : d = 34
    · subst h2; rfl
    · by_cases h3 : d = 10
      · subst h3; rfl
      · simp [h1, h2, h3]
end XQ
namespace PySem
set_option maxHeartbeats 2000000 in
theorem XE_meets_enum1 {v : Value} {o : Obj} {H : Heap → Prop} (B : Begins v o H) :
    Meets (Builtin.«enumerate.__new__» ⟨[.type "enumerate", v], []⟩) (fun _ R s => H s.heap ∧
      R (.ok (.ret (.ref (s.heap.push o).objs.size))) { s with heap := (s.heap.push o).push { cls := .type "enumerate", data := .fields #[.none, .bool false, .ref s.heap.objs.size, rawInt 0, .none, .none] } }) :=
  .of_wp fun prog w A R s h => by
    obtain ⟨hp, g, d, tk, os⟩ := s; obtain ⟨h1, h⟩ := h
    have hsub := sub_enumerate
    have q1 : ∀ {A' : Around} {E : Value → Shared → Prop} {Q : Value → Shared → Prop}, Q (.ref hp.objs.size) ⟨hp.push o, g, d, tk, os⟩ → wpAny (model prog w) A' (pyIter v) Q E ⟨hp, g, d, tk, os⟩ :=
      fun q => B.iter prog w _ _ ⟨hp, g, d, tk, os⟩ _ h1 q
    wp_walk using q1
    refine wpAny_stack_any fun st => wpAny_pure ?_
    split
    · rename_i c _ _ _ _ _
      cases (c == Value.type "enumerate")
      · wp_walk using q1
        exact ⟨_, rfl, h⟩
      · wp_walk using q1
        exact ⟨_, rfl, h⟩
    · wp_walk using q1
      exact ⟨_, rfl, h⟩
section
variable {prog : Program} {w : World} {A : Around} {E : Value → Shared → Prop} {s : Shared}
theorem XE_enum_begins {v : Value} {o : Obj} {H : Heap → Prop} {Q : Value → Shared → Prop} (B : Begins v o H) (h1 : H s.heap)
    (h : ∀ h', IsEnum h' (s.heap.objs.size + 1) s.heap.objs.size 0 .none → h'.get? s.heap.objs.size = some o → h'.objs.size = s.heap.objs.size + 2 →
      (∀ b o, s.heap.get? b = some o → h'.get? b = some o) → Q (.ref (s.heap.objs.size + 1)) { s with heap := h' }) :
    wpAny (model prog w) A (call (.type "enumerate") [v]) Q E s := by
  refine callType_new F.called_enumerate (by decide) (F.typeCall_enumerate_1 _) (F.newCall_enumerate_1 _) (fun obj => F.args_object_init_2 obj _) F.entry_enumerate_new
    (XE_meets_enum1 B) ⟨h1, ?_⟩
  have hz : (s.heap.push o).objs.size = s.heap.objs.size + 1 := Heap.size_push ..
  show _ ∧ _
  rw [hz]
  have he : IsEnum ((s.heap.push o).push { cls := .type "enumerate", data := .fields #[.none, .bool false, .ref s.heap.objs.size, rawInt 0, .none, .none] }) (s.heap.objs.size + 1) s.heap.objs.size 0 .none := by
    have := Heap.get?_push_size (s.heap.push o) (o := { cls := .type "enumerate", data := .fields #[.none, .bool false, .ref s.heap.objs.size, rawInt 0, .none, .none] }) rfl
    rw [hz] at this; exact this
  refine ⟨⟨_, he, rfl⟩, h _ he (Heap.get?_push_of_some _ (Heap.get?_push_size _ B.free)) (by rw [Heap.size_push, hz]) fun b o x => Heap.get?_push_of_some _ (Heap.get?_push_of_some _ x)⟩
end
end PySem
namespace L2
open PySem PySem.Spec PyProof.Rows
/-- the tuple at a, each item in a new pair -/
def IteT (K : PySem.W.Frag) (a : Addr) : It :=
  ⟨fun i H => ∃ (xs : List V) (x : V), SqT K H a xs ∧ xs[i]? = some x, fun i H v H' => ∃ T x, v = .ref T ∧ H T = none ∧ H' = upd H T (.tup [.int (i : Nat), x]) ∧ ∀ xs, SqT K H a xs → xs[i]? = some x, fun i H => ∃ xs : List V, SqT K H a xs ∧ xs.length ≤ i⟩
theorem turn_enumT {P : Program} {w : World} {K : PySem.W.Frag} {elts : List Expr} {kk : Nat} {tpos : Pos} (a e it : Addr) :
    Turn P w K (.Tuple elts kk tpos) (IteT K a) [e, it] e (fun i h => (∃ old, IsEnum h e it ((i : Nat) : Int) old) ∧ h.IsTupleIter it a i ∧ e ≠ it) where
  mem := by simp
  obj := fun i h st b hb => by
    obtain ⟨⟨old, he⟩, ⟨o, ho, hc, hd⟩, _⟩ := st
    have e' : b = e ∨ b = it := by simpa using hb
    rcases e' with z | z
    · rw [z]; exact ⟨_, he, fun v q => nomatch q⟩
    · rw [z]; exact ⟨o, ho, fun v q => by rw [hd] at q; cases q⟩
  keep := fun i h h' st k => let ⟨⟨old, he⟩, hi, hne⟩ := st; ⟨⟨old, k e (by simp) _ he⟩, hi.at fun o q => k it (by simp) o q, hne⟩
  item := by
    intro X hP hw hK hc i pins s σ H E I hf st hg
    subst hP hw hK
    obtain ⟨⟨old, he⟩, hit, hne⟩ := st
    obtain ⟨xs, x, hq, hx⟩ := hg
    obtain ⟨its, rv, p, hz⟩ := I.tuple hq
    obtain ⟨u, hu, ru⟩ := rv.get hx
    have pt : s.heap.IsTuple a its.toArray := p
    have hel : e < s.heap.objs.size := Heap.lt_size he
    have hil : it < s.heap.objs.size := by obtain ⟨_, q, _⟩ := hit; exact Heap.lt_size q
    have hai : a ≠ it := fun z => by
      obtain ⟨o, q1, q2, _⟩ := hit
      obtain ⟨o', q3, q4, _⟩ := pt
      rw [z, q1] at q3
      cases q3
      rw [q2] at q4
      exact absurd (show Value.type "tuple_iterator" = Value.type "tuple" from q4) (by decide)
    have hae : e ≠ a := fun z => by
      obtain ⟨o', q3, q4, _⟩ := pt
      have he : s.heap.get? e = some _ := he
      rw [z, q3] at he
      cases he
      exact absurd (show Value.type "enumerate" = Value.type "tuple" from q4) (by decide)
    have hlt : i < its.toArray.size := by
      have := (List.getElem?_eq_some_iff.mp hu).1
      simpa using this
    refine wpAny_pyNext_enum_itemC (Draws.tuple (A := X.A.in1) (I.ok.hd hc) it a hai its.toArray) he ⟨hit, pt⟩ hlt hne (by simp [hne, hae]) fun v h' tk hP ho hst hT hsz hk => ?_
    have hv : v = u := by
      have hP : its.toArray[i]? = some v := hP
      rw [List.getElem?_toArray, hu] at hP
      exact (Option.some.inj hP).symm
    subst hv
    refine ⟨_, rfl, wpAny_letOwnedTupleGo_enum (s := { s with heap := h', toks := tk + 1 }) ho fun h'' he' sb => ?_⟩
    have hT2 : h''.get? s.heap.objs.size = some { cls := .type "tuple", data := .seq #[.int i tk, v] } := (sb.2 _ (Nat.ne_of_gt hel)).trans hT
    have new : ObjOk X.prog X.w (upd H s.heap.objs.size (.tup [.int (i : Nat), x])) h'' s.heap.objs.size (.tup [.int (i : Nat), x]) :=
      ⟨by show 2 ≤ sizeLine; decide, [.int i tk, v], .cons ⟨_, rfl⟩ (.cons ru .nil), ⟨_, hT2, rfl, _, rfl⟩⟩
    have I1 : Inv X pins σ (upd H s.heap.objs.size (.tup [.int (i : Nat), x])) { s with heap := h'', toks := tk + 1 } :=
      I.turnedNew (ch := [e, it]) (fun b ob hb q => (sb.2 b (fun z => hb (by simp [z]))).trans (hk b ob (fun z => hb (by simp [z])) (fun z => hb (by simp [z])) q)) hf (Nat.le_refl _) new
    refine ⟨.ref s.heap.objs.size, _, I1, rfl, ⟨_, x, rfl, I.hok.fresh (Nat.le_refl _), rfl, fun ys hy => by rw [I.tuple_inj hy hq]; exact hx⟩, ⟨⟨v, ?_⟩, hst.1.at fun o q => (sb.2 it (Ne.symm hne)).trans q, hne⟩, fun b hb => ?_⟩
    · have e1 : ((i + 1 : Nat) : Int) = (i : Int) + 1 := by omega
      rw [e1]; exact he'
    · have hb' : b < s.heap.objs.size := by
        have e' : b = e ∨ b = it := by simpa using hb
        rcases e' with z | z
        · rw [z]; exact hel
        · rw [z]; exact hil
      rw [upd_ne (Nat.ne_of_lt hb')]
      exact (hf b hb).1
  done := by
    intro X hP hw hK hc i pins s σ H E I hf st hg
    subst hP hw hK
    obtain ⟨⟨old, he⟩, hit, hne⟩ := st
    obtain ⟨xs, hq, hx⟩ := hg
    obtain ⟨its, rv, p, hz⟩ := I.tuple hq
    have pt : s.heap.IsTuple a its.toArray := p
    have hai : a ≠ it := fun z => by
      obtain ⟨o, q1, q2, _⟩ := hit
      obtain ⟨o', q3, q4, _⟩ := pt
      rw [z, q1] at q3
      cases q3
      rw [q2] at q4
      exact absurd (show Value.type "tuple_iterator" = Value.type "tuple" from q4) (by decide)
    obtain ⟨f0, f1, f2, f3, f4, f5⟩ := hf it (by simp)
    have hl := rv.length
    have hi : its.toArray[i]? = none := by simp; omega
    have D : Draws X.prog X.w X.A.in1 it [it, a] i (fun _ _ => True) (fun j h => j = i ∧ h.IsTupleIter it a i ∧ h.IsTuple a its.toArray) :=
      ⟨fun _ _ st => let ⟨o, ho, _⟩ := st.2.1; ⟨o, ho⟩, fun _ _ _ st hk => ⟨st.1, st.2.1.at fun o e => hk it (by simp) o e, st.2.2.at fun o e => hk a (by simp) o e⟩, fun j s Q E hj st _ => absurd st.1 (Nat.ne_of_lt hj),
        fun s Q E st hE => wpAny_nextOf_tuple_end (I.ok.hd hc) st.2.1 st.2.2 hi hE⟩
    exact wpAny_pyNext_enum_endD D he ⟨rfl, hit, pt⟩ fun h' eb => ⟨rfl, I.turned (t' := s.toks) (fun b o hb q => eb b o hb q) f0 f1 f3 f4 f5⟩
  self := fun A i s Q E st h => let ⟨⟨_, he⟩, _⟩ := st; wpAny_pyIter_enum he h
def iEnumT (K : PySem.W.Frag) (ta : TA) : TI := fun σ H R => ta σ H fun vs H1 => ∃ a xs, vs = [.ref a] ∧ SqT K H1 a xs ∧ R (IteT K a) H1
theorem pi_enumT {X : Cx} {e : Expr} {ta : TA} {p pos tpos : Pos} {elts : List Expr} {kk : Nat} (hg : Gl X "enumerate") (hm : X.mg "enumerate" = none) (ha : PA X [e] ta) (hs : starEach [e] X.env = [(false, eval e X.env)] := by rfl) :
    PI X (.Tuple elts kk tpos) (.Call (.Name "enumerate" p) [e] [] pos) (iEnumT X.K ta) := by
  refine ⟨fun pins s σ H R I h => ?_⟩
  refine Call_ (ld_blt I hg hm boot_enumerate (PyProof.Rows.callWith_type1 (thn (ha.run pos pins s σ H _ I h) fun us s1 ⟨vs, H1, I1, r1, q1⟩ => ?_) hs rfl))
  obtain ⟨a, xs, ex, hq, q⟩ := q1
  subst ex
  cases r1 with
  | cons r rr =>
    cases rr
    cases r
    obtain ⟨its, rv, p', hz⟩ := I1.tuple hq
    refine XE_enum_begins (begins_tuple a its.toArray) p' fun h' he hit hsz hk => wpAny_pyIter_enum he ?_
    have I2 : Inv X pins σ H1 { s1 with heap := h' } := I1.kept (t' := s1.toks) hk
    refine ⟨s1.heap.objs.size + 1, [s1.heap.objs.size + 1, s1.heap.objs.size], _, _, H1, rfl, I2, turn_enumT a (s1.heap.objs.size + 1) s1.heap.objs.size, ⟨⟨.none, he⟩, ⟨_, hit, rfl, rfl⟩, Nat.succ_ne_self _⟩, fun b hb => ?_, q⟩
    have e' : b = s1.heap.objs.size + 1 ∨ b = s1.heap.objs.size := by simpa using hb
    have hle : s1.heap.objs.size ≤ b := by
      rcases e' with z | z
      · rw [z]; exact Nat.le_add_right _ _
      · rw [z]; exact Nat.le_refl _
    exact I1.fpOk hle (I1.hok.fresh hle)
theorem walk_enumT {K : PySem.W.Frag} {a : Addr} {xs : List V} : Walk (IteT K a) xs.length (fun H => SqT K H a xs) (YPair (fun i => some (.int (i : Nat))) (fun i => xs[i]?)) := by
  refine ⟨fun i _ hi q => ⟨xs, xs[i], q, by simp [hi]⟩, fun _ q => ⟨xs, q, Nat.le_refl _⟩, fun i H v H' _ q y => ?_⟩
  obtain ⟨T, x, h1, h2, h3, h4⟩ := y
  exact ⟨T, .int (i : Nat), x, h1, h2, h3, rfl, h4 xs q⟩
end L2
/-! own text: list(zip(xs, ys)) of two lists -/
namespace XW
open PySem PySem.Spec PyProof.Rows L2 PySem.W
open PySem.Sem (wp)
section
variable {prog : Program} {w : World} {A : Around} {E : Value → Shared → Prop} {s : Shared}
theorem zip_no_len : typeLookup (.type "zip") "__len__" = pure none := am_miss_of_fast (by decide +kernel)
theorem zip_no_hint : typeLookup (.type "zip") "__length_hint__" = pure none := am_miss_of_fast (by decide +kernel)
theorem hint_zip {r : Addr} {Q : Bool → Shared → Prop} (hT : s.TypeIs (.ref r) "zip") (h : Q true s) : wpAny (model prog w) A (Builtin.List.listLengthHint (.ref r)) Q E s := by
  unfold Builtin.List.listLengthHint
  refine wpAny_bind (wpAny_specialOf hT zip_no_len ?_)
  refine wpAny_ite_split (fun hab => absurd hab (by decide)) (fun _ => ?_)
  refine wpAny_ite_split (fun hab => absurd hab (by decide)) (fun _ => ?_)
  refine wpAny_bind (wpAny_specialOf hT zip_no_hint ?_)
  exact wpAny_pure h
/-- the zip z stands ahead of turn i -/
structure ZAt (h : Heap) (z TI TO i1 i2 l1 l2 S : Addr) (i : Nat) : Prop where
  z_ : (IsZip h z TI TO .none) ∨ ∃ T f x y, IsZipHeld h z TI TO T f ∧ IsPair h T x y ∧ T ≠ S ∧ T ≠ TO
  TI_ : IsPair h TI (.ref i1) (.ref i2)
  TO_ : ∃ a b, IsPair h TO a b
  i1_ : h.IsListIter i1 l1 i
  i2_ : h.IsListIter i2 l2 i
theorem ZAt.keep {h h' : Heap} {z TI TO i1 i2 l1 l2 S : Addr} {i : Nat} (st : ZAt h z TI TO i1 i2 l1 l2 S i) (k : ∀ b o, b ≠ S → h.get? b = some o → h'.get? b = some o) (n : z ≠ S ∧ TI ≠ S ∧ TO ≠ S ∧ i1 ≠ S ∧ i2 ≠ S) : ZAt h' z TI TO i1 i2 l1 l2 S i := by
  obtain ⟨hz, hTI, ⟨a, b, hTO⟩, h1, h2⟩ := st
  refine ⟨?_, k _ _ n.2.1 hTI, ⟨a, b, k _ _ n.2.2.1 hTO⟩, h1.at fun o e => k _ _ n.2.2.2.1 e, h2.at fun o e => k _ _ n.2.2.2.2 e⟩
  rcases hz with hz | ⟨T, f, x, y, hz, hT, hTS, hTO'⟩
  · exact .inl (k _ _ n.1 hz)
  · exact .inr ⟨T, f, x, y, k _ _ n.1 hz, k _ _ hTS hT, hTS, hTO'⟩
structure ZGot (xs ys : Array Value) (lo : Addr) (h : Heap) (as : List Addr) : Prop where
  above : ∀ a ∈ as, lo < a
  pairs : ∀ (j : Nat) (a : Addr), as[j]? = some a → ∃ x y, xs[j]? = some x ∧ ys[j]? = some y ∧ IsPair h a x y
  nd : as.Pairwise (· < ·)
theorem ZGot.there {xs ys : Array Value} {lo : Addr} {h : Heap} {as : List Addr} (g : ZGot xs ys lo h as) {a : Addr} (ha : a ∈ as) : a < h.objs.size := by
  obtain ⟨j, hj⟩ := List.mem_iff_getElem?.mp ha
  obtain ⟨_, _, _, _, e⟩ := g.pairs j a hj
  exact Heap.lt_size e
theorem zip_item {z TI TO i1 i2 l1 l2 S : Addr} {i : Nat} {xs ys : Array Value} {x y : Value} {Q : Option Value → Shared → Prop} (D : ZipApart z TI TO i1 i2 l1 l2) (st : ZAt s.heap z TI TO i1 i2 l1 l2 S i) (hS : S < s.heap.objs.size)
    (hl1 : s.heap.IsList l1 xs) (hl2 : s.heap.IsList l2 ys) (hx : xs[i]? = some x) (hy : ys[i]? = some y)
    (hQ : ∀ h', ZAt h' z TI TO i1 i2 l1 l2 S (i + 1) → IsPair h' s.heap.objs.size x y → h'.objs.size = s.heap.objs.size + 1 →
      (∀ c o, c ≠ z → c ≠ TO → c ≠ i1 → c ≠ i2 → s.heap.get? c = some o → h'.get? c = some o) → Q (some (.ref s.heap.objs.size)) { s with heap := h' }) :
    wpAny (model prog w) A (pyNext (.ref z)) Q E s := by
  obtain ⟨hz, hTI, ⟨a, b, hTO⟩, h1, h2⟩ := st
  have nTO : s.heap.objs.size ≠ TO := Nat.ne_of_gt (Heap.lt_size hTO)
  rcases hz with hz | ⟨T, f, x0, y0, hz, hT, hTS, hTO'⟩
  · refine wpAny_pyNext_zip_item D hz hTI hTO h1 h2 hl1 hl2 hx hy fun h' a1 a2 a3 a4 a5 a6 a7 => hQ h' ⟨.inr ⟨s.heap.objs.size, false, _, _, a1, a5, Nat.ne_of_gt hS, nTO⟩, a7 _ _ D.TIz D.TITO D.TIi1 D.TIi2 hTI, ⟨_, _, a2⟩, a3, a4⟩ a5 a6 a7
  · refine wpAny_pyNext_zip_item_held D hz hT hTI h1 h2 hl1 hl2 hx hy fun h' a1 a3 a4 a5 a6 a7 => ?_
    have hk : ∀ c o, c ≠ z → c ≠ TO → c ≠ i1 → c ≠ i2 → s.heap.get? c = some o → h'.get? c = some o := fun c o c1 _ c3 c4 e => a7 c o c1 c3 c4 e
    have n1 : T ≠ z := fun e => by
      have q : s.heap.get? T = _ := hT
      rw [e] at q
      have := q.symm.trans hz
      simp at this
    have n2 : T ≠ i1 := fun e => by
      obtain ⟨o, ho, hd, hd2⟩ := h1
      have q : s.heap.get? T = _ := hT
      rw [e] at q
      have := q.symm.trans ho
      cases this
      first | cases hd | cases hd2
    have n3 : T ≠ i2 := fun e => by
      obtain ⟨o, ho, hd, hd2⟩ := h2
      have q : s.heap.get? T = _ := hT
      rw [e] at q
      have := q.symm.trans ho
      cases this
      first | cases hd | cases hd2
    exact hQ h' ⟨.inr ⟨T, true, _, _, a1, a7 _ _ n1 n2 n3 hT, hTS, hTO'⟩, a7 _ _ D.TIz D.TIi1 D.TIi2 hTI, ⟨_, _, a7 _ _ D.TOz D.TOi1 D.TOi2 hTO⟩, a3, a4⟩ a5 a6 hk
theorem zip_done {z TI TO i1 i2 l1 l2 S : Addr} {i : Nat} {xs ys : Array Value} {Q : Option Value → Shared → Prop} (hh : A.handled = none) (D : ZipApart z TI TO i1 i2 l1 l2) (st : ZAt s.heap z TI TO i1 i2 l1 l2 S i)
    (hl1 : s.heap.IsList l1 xs) (hl2 : s.heap.IsList l2 ys) (hend : xs[i]? = none ∨ ys[i]? = none)
    (hQ : ∀ h', (∀ c o, c ≠ z → c ≠ TO → c ≠ i1 → c ≠ i2 → s.heap.get? c = some o → h'.get? c = some o) → Q none { s with heap := h' }) :
    wpAny (model prog w) A (pyNext (.ref z)) Q E s := by
  obtain ⟨hz, hTI, ⟨a, b, hTO⟩, h1, h2⟩ := st
  rcases hz with hz | ⟨T, f, x0, y0, hz, hT, hTS, _⟩
  · exact wpAny_pyNext_zip_end hh D hz hTI hTO h1 h2 hl1 hl2 hend hQ
  · exact wpAny_pyNext_zip_end_held hh D hz hT hTI h1 h2 hl1 hl2 hend fun h' k => hQ h' fun c o c1 _ c3 c4 e => k c o c1 c3 c4 e
end
section
variable {prog : Program} {w : World} {A : Around} {s : Shared} {R : Result → Shared → Prop}
theorem gt {a b c : Addr} (h : a ≤ b) (k : b < c) : c ≠ a := Nat.ne_of_gt (Nat.lt_of_le_of_lt h k)
theorem zip_loop {z TI TO i1 i2 l1 l2 S lo : Addr} {xs ys : Array Value} {n : Nat} (hh : A.handled = none) (D : ZipApart z TI TO i1 i2 l1 l2) (ne : z ≠ S ∧ TI ≠ S ∧ TO ≠ S ∧ i1 ≠ S ∧ i2 ≠ S) (nl1 : l1 ≠ S) (nl2 : l2 ≠ S) (nn : n = min xs.size ys.size) (hn : n ≤ sizeLine) (res : Value) {h₁ : Heap}
    (hlo : z ≤ lo ∧ TO ≤ lo ∧ i1 ≤ lo ∧ i2 ≤ lo ∧ S ≤ lo)
    (hR : ∀ h' tk acc c as, (∀ b o, b ≠ S → b ≠ z → b ≠ TO → b ≠ i1 → b ≠ i2 → h₁.get? b = some o → h'.get? b = some o) → h'.get? S = some { cls := .type "list", dict := none, data := .seq acc c, slots := #[] } → as.length = n → ZGot xs ys lo h' as →
      acc.toList = as.map Value.ref → R (.ok (.ret res)) { s with heap := h', toks := tk }) :
    ∀ (k i : Nat) (h : Heap) (tk c : Nat) (acc : Array Value) (as : List Addr), n - i = k → i ≤ n → ZAt h z TI TO i1 i2 l1 l2 S i → h.IsList l1 xs → h.IsList l2 ys → (∀ b o, b ≠ S → b ≠ z → b ≠ TO → b ≠ i1 → b ≠ i2 → h₁.get? b = some o → h.get? b = some o) →
      h.get? S = some { cls := .type "list", dict := none, data := .seq acc c, slots := #[] } → acc.toList = as.map Value.ref → as.length = i → ZGot xs ys lo h as → lo < h.objs.size →
      codeAny (model prog w) A (.builtin "list.extend.loop" ⟨[.ref S, .ref z, res], []⟩) R { s with heap := h, toks := tk } := by
  intro k
  induction k with
  | zero =>
    intro i h tk c acc as hk hi hst hl1 hl2 hkeep hS hacc hal hG hIs
    refine codeAny_builtin PySem.F.entry_extend_loop ?_
    rw [Around.under_plainId PySem.F.plain_extend_loop _]
    show wpAny _ A.in1 (pyNext (.ref z) >>= _) _ _ _
    refine wpAny_bind (zip_done (s := { s with heap := h, toks := tk }) (A := A.in1) (xs := xs) (ys := ys) hh D hst hl1 hl2 ?_ fun h' he => ?_)
    · by_cases hlt : xs.size ≤ i
      · exact .inl (Array.getElem?_eq_none hlt)
      · exact .inr (Array.getElem?_eq_none (by omega))
    · refine wpAny_pure (hR h' tk acc c as (fun b o h0 h1 h2 h3 h4 e => he b o h1 h2 h3 h4 (hkeep b o h0 h1 h2 h3 h4 e)) (he S _ ne.1.symm ne.2.2.1.symm ne.2.2.2.1.symm ne.2.2.2.2.symm hS) (by omega) ⟨hG.above, fun j a hj => ?_, hG.nd⟩ hacc)
      obtain ⟨x, y, e1, e2, e3⟩ := hG.pairs j a hj
      have := hG.above a (List.mem_of_getElem? hj)
      exact ⟨x, y, e1, e2, he a _ (gt hlo.1 this) (gt hlo.2.1 this) (gt hlo.2.2.1 this) (gt hlo.2.2.2.1 this) e3⟩
  | succ k ih =>
    intro i h tk c acc as hk hi hst hl1 hl2 hkeep hS hacc hal hG hIs
    have hlt : i < n := by omega
    have hsz : acc.size = i := by rw [← Array.length_toList, hacc, List.length_map, hal]
    have hx : xs[i]? = some (xs[i]'(by omega)) := Array.getElem?_eq_getElem (by omega)
    have hy : ys[i]? = some (ys[i]'(by omega)) := Array.getElem?_eq_getElem (by omega)
    refine codeAny_builtin PySem.F.entry_extend_loop ?_
    rw [Around.under_plainId PySem.F.plain_extend_loop _]
    show wpAny _ A.in1 (pyNext (.ref z) >>= _) _ _ _
    refine wpAny_bind (zip_item (s := { s with heap := h, toks := tk }) (S := S) D hst (Heap.lt_size hS) hl1 hl2 hx hy fun h' hst' ht hz hkp => ?_)
    dsimp only at ht hz hkp ⊢
    have hS' := hkp S _ ne.1.symm ne.2.2.1.symm ne.2.2.2.1.symm ne.2.2.2.2.symm hS
    have up : ∀ b o, b ≠ S → h'.get? b = some o → (h'.update S (Obj.mapSeq (·.push (Value.ref h.objs.size)))).get? b = some o := fun b o hb e => (Heap.get?_update_other _ _ (Ne.symm hb)).trans e
    have hSl : S < h.objs.size := Heap.lt_size hS
    have L1 : h'.IsList l1 xs := hl1.at fun o e => hkp l1 o D.l1z D.l1TO D.l1i1 D.l1i2 e
    have L2' : h'.IsList l2 ys := hl2.at fun o e => hkp l2 o D.l2z D.l2TO D.l2i1 D.l2i2 e
    show wpAny _ A.in1 (updateSeq S (·.push (Value.ref h.objs.size)) >>= _) _ _ _
    refine wpAny_bind ?_
    refine wpAny_updateSeq hS' rfl (wpAny_pure ⟨plainId_quiet PySem.F.plain_extend_loop _, ih (i + 1) _ tk _ (acc.push (Value.ref h.objs.size)) (as ++ [h.objs.size]) (by omega) hlt (hst'.keep up ne) (L1.at fun o e => up l1 o nl1 e) (L2'.at fun o e => up l2 o nl2 e)
      (fun b o h0 h1 h2 h3 h4 e => up b o h0 (hkp b o h1 h2 h3 h4 (hkeep b o h0 h1 h2 h3 h4 e))) (Heap.get?_update_self _ hS' rfl) (by rw [Array.toList_push, hacc, List.map_append]; rfl) (by rw [List.length_append, hal]; rfl) ⟨?_, ?_, ?_⟩ ?_⟩) (by rw [hsz]; omega) (by show (acc.push (Value.ref h.objs.size)).size ≤ sizeLine + 1; rw [Array.size_push, hsz]; omega)
    · intro a ha
      rcases List.mem_append.mp ha with ha | ha
      · exact hG.above a ha
      · rw [List.mem_singleton.mp ha]; exact hIs
    · intro j b hj
      rcases Nat.lt_trichotomy j as.length with h1 | h1 | h1
      · rw [List.getElem?_append_left h1] at hj
        obtain ⟨x, y, e1, e2, e3⟩ := hG.pairs j b hj
        have hb := hG.above b (List.mem_of_getElem? hj)
        exact ⟨x, y, e1, e2, up b _ (gt hlo.2.2.2.2 hb) (hkp b _ (gt hlo.1 hb) (gt hlo.2.1 hb) (gt hlo.2.2.1 hb) (gt hlo.2.2.2.1 hb) e3)⟩
      · subst h1
        have hb : h.objs.size = b := by simpa using hj
        subst hb
        exact ⟨_, _, by subst hal; exact hx, by subst hal; exact hy, up _ _ (Nat.ne_of_gt hSl) ht⟩
      · have hnone : (as ++ [h.objs.size])[j]? = none := List.getElem?_eq_none (by rw [List.length_append, List.length_singleton]; omega)
        rw [hnone] at hj; cases hj
    · refine List.pairwise_append.mpr ⟨hG.nd, List.pairwise_singleton _ _, fun a ha b hb => ?_⟩
      rw [List.mem_singleton.mp hb]
      exact hG.there ha
    · have e : (h'.update S (Obj.mapSeq (·.push (Value.ref h.objs.size)))).get? h.objs.size = _ := up _ _ (Nat.ne_of_gt hSl) ht
      exact Nat.lt_trans hIs (Heap.lt_size e)
/-- the list's items, drawn from the zip -/
theorem zip_extend {z TI TO i1 i2 l1 l2 S lo : Addr} {xs ys : Array Value} {n : Nat} (hh : A.handled = none) (D : ZipApart z TI TO i1 i2 l1 l2) (ne : z ≠ S ∧ TI ≠ S ∧ TO ≠ S ∧ i1 ≠ S ∧ i2 ≠ S) (nl1 : l1 ≠ S) (nl2 : l2 ≠ S) (nn : n = min xs.size ys.size) (hn : n ≤ sizeLine) (res : Value) (c₀ : Nat)
    (hlo : z ≤ lo ∧ TO ≤ lo ∧ i1 ≤ lo ∧ i2 ≤ lo ∧ S ≤ lo) (hz : IsZip s.heap z TI TO .none) (st : ZAt s.heap z TI TO i1 i2 l1 l2 S 0) (hl1 : s.heap.IsList l1 xs) (hl2 : s.heap.IsList l2 ys) (hS : s.heap.get? S = some { cls := .type "list", data := .seq #[] c₀ }) (hlS : lo < s.heap.objs.size)
    (hR : ∀ h' tk acc c as, (∀ b o, b ≠ S → b ≠ z → b ≠ TO → b ≠ i1 → b ≠ i2 → s.heap.get? b = some o → h'.get? b = some o) → h'.get? S = some { cls := .type "list", dict := none, data := .seq acc c, slots := #[] } → as.length = n → ZGot xs ys lo h' as →
      acc.toList = as.map Value.ref → R (.ok (.ret res)) { s with heap := h', toks := tk }) :
    wpAny (model prog w) A.in1 (Builtin.List.listExtendWith (.ref S) (.ref z) res)
      (fun fin s' => match fin with | .done f => R (.ok f) s' | .again c' => c'.quiet = true ∧ codeAny (model prog w) A c' R s') (fun e s' => R (.error e) s') s := by
  have hT : s.TypeIs (.ref z) "zip" := ⟨_, hz, rfl⟩
  have key : ∀ (h : Heap) (c₁ tk : Nat), (∀ b o, b ≠ S → s.heap.get? b = some o → h.get? b = some o) → h.get? S = some { cls := .type "list", data := .seq #[] c₁ } → lo < h.objs.size →
      codeAny (model prog w) A (.builtin "list.extend.loop" ⟨[.ref S, .ref z, res], []⟩) R { s with heap := h, toks := tk } := by
    intro h c₁ tk hk hS₁ hz'
    refine zip_loop (s := s) (h₁ := s.heap) hh D ne nl1 nl2 nn hn res hlo hR n 0 h tk c₁ #[] [] (Nat.sub_zero _) (Nat.zero_le _) (st.keep hk ne) (hl1.at fun o e => hk _ o nl1 e) (hl2.at fun o e => hk _ o nl2 e) (fun b o h0 _ _ _ _ e => hk b o h0 e) hS₁ rfl rfl ⟨(fun _ ha => nomatch ha), (fun j a hj => by simp at hj), List.Pairwise.nil⟩ hz'
  unfold Builtin.List.listExtendWith
  refine wpAny_bind (wpAny_typeOf (T := "zip") hT ?_)
  have h1 : Builtin.List.listSameRef (.ref S) (.ref z) = false := by simp [Builtin.List.listSameRef, ne.1.symm]
  have h2 : (Value.type "zip" == Value.type "list") = false := by decide
  have h3 : (Value.type "zip" == Value.type "tuple") = false := by decide
  simp only [h1, h2, h3, Bool.or_false, Bool.false_eq_true, if_false]
  refine wpAny_bind (wpAny_pyIter_zip hz ?_)
  refine wpAny_bind (wpAny_holding (hint_zip hT ?_))
  refine wpAny_ite_split (fun _ => ?_) (fun _ => wpAny_pure ⟨plainId_quiet PySem.F.plain_extend_loop _, key _ c₀ _ (fun b o _ e => e) hS hlS⟩)
  refine wpAny_bind (wpAny_rule ?_)
  refine wpAny_bind ?_
  show wpAny _ _ (updateSeq S (·.push .none) >>= fun _ => updateSeq S (·.pop)) _ _ _
  refine wpAny_bind (wpAny_updateSeq hS rfl ?_)
  have hS₂ := Heap.get?_update_self (Obj.mapSeq (·.push Value.none)) hS rfl
  refine wpAny_updateSeq (hz := by seq_fits) hS₂ rfl ?_
  have hS₃ := Heap.get?_update_self (Obj.mapSeq (·.pop)) hS₂ rfl
  refine wpAny_pure ⟨plainId_quiet PySem.F.plain_extend_loop _, key _ _ _ (fun b o hb e => ?_) hS₃ ?_⟩
  · exact (Heap.get?_update_other _ _ (Ne.symm hb)).trans ((Heap.get?_update_other _ _ (Ne.symm hb)).trans e)
  · rw [Heap.size_update, Heap.size_update]; exact hlS
end
section
variable {prog : Program} {w : World} {A : Around} {E : Value → Shared → Prop} {s : Shared}
theorem call_list_zip {z TI TO i1 i2 l1 l2 : Addr} {xs ys : Array Value} {n : Nat} {Q : Value → Shared → Prop} (hh : A.handled = none) (D : ZipApart z TI TO i1 i2 l1 l2) (nn : n = min xs.size ys.size) (hn : n ≤ sizeLine)
    (hz : IsZip s.heap z TI TO .none) (hTI : IsPair s.heap TI (.ref i1) (.ref i2)) (hTO : ∃ a b, IsPair s.heap TO a b) (h1 : s.heap.IsListIter i1 l1 0) (h2 : s.heap.IsListIter i2 l2 0) (hl1 : s.heap.IsList l1 xs) (hl2 : s.heap.IsList l2 ys)
    (hQ : ∀ h' tk acc c as, (∀ b o, b ≠ z → b ≠ TO → b ≠ i1 → b ≠ i2 → s.heap.get? b = some o → h'.get? b = some o) → h'.get? s.heap.objs.size = some { cls := .type "list", dict := none, data := .seq acc c, slots := #[] } → as.length = n → ZGot xs ys s.heap.objs.size h' as →
      acc.toList = as.map Value.ref → Q (.ref s.heap.objs.size) { s with heap := h', toks := tk }) :
    wpAny (model prog w) A (call (.type "list") [.ref z]) Q E s := by
  refine callType_codes (Q₁ := fun obj s₁ => obj = .ref s.heap.objs.size ∧ s₁ = { s with heap := s.heap.push { cls := .type "list", data := .seq #[] } }) PySem.F.called_list (PySem.F.typeCall_list_1 _) PySem.F.entry_list_init
    (code_list_new _ ⟨rfl, rfl⟩) fun obj s₁ h₁ => ?_
  obtain ⟨rfl, rfl⟩ := h₁
  have hS : (s.heap.push { cls := .type "list", data := .seq #[] }).get? s.heap.objs.size = some { cls := .type "list", data := .seq #[] } := Heap.get?_push_size _ rfl
  have lz : z < s.heap.objs.size := Heap.lt_size hz
  have lTI : TI < s.heap.objs.size := Heap.lt_size hTI
  have lTO : TO < s.heap.objs.size := by obtain ⟨_, _, e⟩ := hTO; exact Heap.lt_size e
  have li1 : i1 < s.heap.objs.size := by obtain ⟨_, e, _⟩ := h1; exact Heap.lt_size e
  have li2 : i2 < s.heap.objs.size := by obtain ⟨_, e, _⟩ := h2; exact Heap.lt_size e
  have ll1 : l1 < s.heap.objs.size := by obtain ⟨_, e, _⟩ := hl1; exact Heap.lt_size e
  have ll2 : l2 < s.heap.objs.size := by obtain ⟨_, e, _⟩ := hl2; exact Heap.lt_size e
  refine ⟨⟨_, hS, rfl⟩, PySem.F.args_list_init_2 _ _, ?_⟩
  show wpAny _ _ (do let old ← Builtin.List.listItems (.ref s.heap.objs.size); Builtin.List.listUpdate (.ref s.heap.objs.size) (fun _ => #[]); letGo old.toList.reverse; Builtin.List.listExtendWith (.ref s.heap.objs.size) (.ref z) .none) _ _ _
  refine wpAny_bind ?_
  unfold Builtin.List.listItems
  refine wpAny_bind (wpAny_seqItems hS rfl (wpAny_pure ?_))
  show wpAny _ _ (updateSeq s.heap.objs.size (fun _ => #[]) >>= fun _ => letGo (#[] : Array Value).toList.reverse >>= fun _ => Builtin.List.listExtendWith (.ref s.heap.objs.size) (.ref z) .none) _ _ _
  refine wpAny_bind (wpAny_updateSeq hS rfl ?_)
  have hS₂ := Heap.get?_update_self (Obj.mapSeq (fun _ => (#[] : Array Value))) hS rfl
  have oth : ∀ b o, s.heap.get? b = some o → ((s.heap.push { cls := .type "list", data := .seq #[] }).update s.heap.objs.size (Obj.mapSeq (fun _ => (#[] : Array Value)))).get? b = some o :=
    fun b o e => (Heap.get?_update_other _ _ (Nat.ne_of_gt (Heap.lt_size e))).trans (Heap.get?_push_of_some _ e)
  refine wpAny_bind (wpAny_letGo ?_)
  refine zip_extend (A := A.in1) (S := s.heap.objs.size) (lo := s.heap.objs.size) hh D ⟨Nat.ne_of_lt lz, Nat.ne_of_lt lTI, Nat.ne_of_lt lTO, Nat.ne_of_lt li1, Nat.ne_of_lt li2⟩ (Nat.ne_of_lt ll1) (Nat.ne_of_lt ll2) nn hn .none _ ⟨Nat.le_of_lt lz, Nat.le_of_lt lTO, Nat.le_of_lt li1, Nat.le_of_lt li2, Nat.le_refl _⟩
    (oth _ _ hz) ⟨.inl (oth _ _ hz), oth _ _ hTI, (by obtain ⟨a, b, e⟩ := hTO; exact ⟨a, b, oth _ _ e⟩), h1.at fun o e => oth _ o e, h2.at fun o e => oth _ o e⟩ (hl1.at fun o e => oth _ o e) (hl2.at fun o e => oth _ o e) hS₂ (Heap.lt_size hS₂) fun h' tk acc c as hk hS' hl hG hacc => ?_
  refine ⟨rfl, hQ h' tk acc c as (fun b o b1 b2 b3 b4 e => hk b o (Nat.ne_of_lt (Heap.lt_size e)) b1 b2 b3 b4 (oth b o e)) hS' hl hG hacc⟩
end
/-! ### several objects laid at once -/
def updL (H : Hp) : List (Addr × HO) → Hp
  | [] => H
  | (a, o) :: r => upd (updL H r) a o
theorem updL_not {H : Hp} : ∀ {l : List (Addr × HO)} {b : Addr}, (∀ p ∈ l, p.1 ≠ b) → updL H l b = H b
  | [], _, _ => rfl
  | (a, o) :: r, b, h => by
    show upd (updL H r) a o b = H b
    rw [upd_ne fun z => h (a, o) (List.mem_cons_self ..) z.symm, updL_not fun p hp => h p (List.mem_cons_of_mem _ hp)]
theorem updL_mem {H : Hp} : ∀ {l : List (Addr × HO)} {a : Addr} {o : HO}, (l.map Prod.fst).Nodup → (a, o) ∈ l → updL H l a = some o
  | (a', o') :: r, a, o, nd, h => by
    rw [List.map_cons, List.nodup_cons] at nd
    show upd (updL H r) a' o' a = some o
    rcases List.mem_cons.mp h with e | e
    · cases e
      exact upd_same
    · have : a ≠ a' := fun z => nd.1 (List.mem_map.mpr ⟨(a, o), e, z⟩)
      rw [upd_ne this]
      exact updL_mem nd.2 e
theorem updL_cases {H : Hp} {l : List (Addr × HO)} {b : Addr} {u : HO} (nd : (l.map Prod.fst).Nodup) (e : updL H l b = some u) : (b, u) ∈ l ∨ H b = some u := by
  by_cases h : ∃ p ∈ l, p.1 = b
  · obtain ⟨⟨a, o⟩, hp, rfl⟩ := h
    rw [updL_mem nd hp] at e
    cases e
    exact .inl hp
  · rw [updL_not fun p hp z => h ⟨p, hp, z⟩] at e
    exact .inr e
theorem lays {X : Cx} {pins : List (Addr × Obj)} {σ : L2.St} {H : Hp} {s : Shared} {h' : Heap} {t' : Nat} {l : List (Addr × HO)} (I : Inv X pins σ H s) (k : ∀ b u, s.heap.get? b = some u → h'.get? b = some u) (nd : (l.map Prod.fst).Nodup)
    (hp : ∀ p ∈ l, s.heap.objs.size ≤ p.1) (new : ∀ p ∈ l, ObjOk X.prog X.w (updL H l) h' p.1 p.2) : Inv X pins σ (updL H l) { s with heap := h', toks := t' } ∧ ∀ b u, H b = some u → updL H l b = some u := by
  have old : ∀ b u, H b = some u → updL H l b = some u := fun b u e => by
    rw [updL_not fun p hp' z => ?_]
    · exact e
    · have := I.hok.fresh (hp p hp')
      rw [z, e] at this
      cases this
  refine ⟨I.un ⟨fun b u q _ _ _ => k b u q, fun b u q _ _ _ => ⟨u.slots, k b u q⟩, fun b u q n _ => ?_, fun b u q _ => ⟨u, k b u q⟩, fun b xs q => old _ _ q, fun b o xs q => old _ _ q, fun b ps q => ⟨#[], by rw [old _ _ q]; simp⟩⟩ fun b u e => ?_, old⟩
  · rw [updL_not fun p hp' z => ?_]
    · exact n
    · exact absurd (Nat.lt_of_lt_of_le (Heap.lt_size q) (z ▸ hp p hp')) (Nat.lt_irrefl _)
  · rcases updL_cases nd e with h | h
    · exact new _ h
    · exact (I.hok b u h).stay (fun c v _ q => k c v q) (fun c q => old _ _ q) fun c xs q => old _ _ q
/-- list(zip(xs, ys)) -/
def tListZip (K : PySem.W.Frag) (ta : TA) : TE := fun σ H Q => ta σ H fun vs H1 => ∃ a b xs ys, vs = [.ref a, .ref b] ∧ SqL K H1 a xs ∧ SqL K H1 b ys ∧ ∀ (H' : Hp) (p : Addr) (ts : List Addr), Same H1 H' → H1 p = none → H' p = some (.lst (ts.map V.ref)) → ts.length = min xs.length ys.length →
  (∀ (j : Nat) (t : Addr), ts[j]? = some t → ∃ x y, xs[j]? = some x ∧ ys[j]? = some y ∧ H' t = some (.tup [x, y])) → Q (.ref p) H'
theorem pe_listZip {X : Cx} {e e2 : Expr} {ta : TA} {p0 pos0 p pos : Pos} (hc : X.calm = true) (hgl : Gl X "list") (hml : X.mg "list" = none) (hg : Gl X "zip") (hm : X.mg "zip" = none) (ha : PA X [e, e2] ta)
    (hs : starEach [e, e2] X.env = (false, eval e X.env) :: starEach [e2] X.env := by rfl) (hpl : (backTo pos (starEach [e2] X.env)).any (·.1) = false := by rfl)
    (na : starEach [.Call (.Name "zip" p) [e, e2] [] pos] X.env = (false, eval (.Call (.Name "zip" p) [e, e2] [] pos) X.env) :: starEach [] X.env := by rfl) (npl : (backTo pos0 (starEach [] X.env)).any (·.1) = false := by rfl) :
    PE X (.Call (.Name "list" p0) [.Call (.Name "zip" p) [e, e2] [] pos] [] pos0) (tListZip X.K ta) := by
  refine ⟨fun pins s σ H Q I h => ?_⟩
  refine Call_ (ld_blt I hgl hml (show bootBuiltins "list" = some (.type "list") by decide +kernel) ?_)
  refine PyProof.Rows.callWith_type1 (PyProof.Rows.args_cons ?_ na) na npl
  refine Call_ (ld_blt I hg hm PyProof.Rows.boot_zip (PyProof.Rows.callWith_type1 (thn (ha.run pos pins s σ H _ I h) fun us s1 ⟨vs, H1, I1, r1, q1⟩ => ?_) hs hpl))
  obtain ⟨a, b, xs, ys, ex, hqx, hqy, q⟩ := q1
  subst ex
  cases r1 with
  | cons r rr =>
    cases rr with
    | cons r' rr =>
      cases rr
      cases r
      cases r'
      obtain ⟨its, rv, p1, hz1⟩ := I1.list hqx
      obtain ⟨its2, rv2, p2, hz2⟩ := I1.list hqy
      refine call_zip_2 p1.isList p2.isList fun h5 hz hTI hTO g1 g2 hsz hk => PyProof.Rows.args_nil ?_
      have D := PySem.W.ktu_apart s1.heap.objs.size a b p1.lt p2.lt
      have e1 : its.toArray.size = xs.length := by rw [List.size_toArray, ← rv.length]
      have e2 : its2.toArray.size = ys.length := by rw [List.size_toArray, ← rv2.length]
      have zz : its.toArray.size ≤ sizeLine := by
        have := rv.length
        rw [List.size_toArray]
        omega
      refine call_list_zip (s := { s1 with heap := h5 }) (n := min xs.length ys.length) (I1.ok.hd hc) D (by rw [e1, e2]) (by rw [e1] at zz; exact Nat.le_trans (Nat.min_le_left _ _) zz) hz hTI ⟨_, _, hTO⟩ g1 g2 (p1.isList.at fun o q => hk _ o q) (p2.isList.at fun o q => hk _ o q) fun h' tk acc c as hk' hS' hl hG hacc => ?_
      have fr : ∀ c o, s1.heap.get? c = some o → h'.get? c = some o := fun c o e => by
        have lt := Heap.lt_size e
        exact hk' c o (Nat.ne_of_lt (Nat.lt_of_lt_of_le lt (Nat.le_add_right _ _))) (Nat.ne_of_lt (Nat.lt_of_lt_of_le lt (Nat.le_add_right _ _))) (Nat.ne_of_lt lt) (Nat.ne_of_lt (Nat.lt_of_lt_of_le lt (Nat.le_add_right _ _))) (hk c o e)
      have pos5 : s1.heap.objs.size ≤ h5.objs.size := by rw [hsz]; exact Nat.le_add_right _ _
      let lt : List (Addr × HO) := (as.zip (xs.zip ys)).map fun q => (q.1, .tup [q.2.1, q.2.2])
      let l : List (Addr × HO) := (h5.objs.size, .lst (as.map V.ref)) :: lt
      have fst : lt.map Prod.fst = as := by
        show ((as.zip (xs.zip ys)).map fun q => ((q.1, HO.tup [q.2.1, q.2.2]) : Addr × HO)).map Prod.fst = as
        rw [List.map_map]
        have : (Prod.fst ∘ fun q : Addr × V × V => ((q.1, HO.tup [q.2.1, q.2.2]) : Addr × HO)) = Prod.fst := rfl
        rw [this, List.map_fst_zip (by rw [List.length_zip]; omega)]
      have mem : ∀ q ∈ lt, ∃ (j : Nat) (t : Addr) (x y : V), as[j]? = some t ∧ xs[j]? = some x ∧ ys[j]? = some y ∧ q = (t, HO.tup [x, y]) := fun q hq => by
        obtain ⟨⟨t, x, y⟩, hm, rfl⟩ := List.mem_map.mp hq
        obtain ⟨j, hj⟩ := List.getElem?_of_mem hm
        rw [List.getElem?_zip_eq_some] at hj
        obtain ⟨j1, j2⟩ := hj
        rw [List.getElem?_zip_eq_some] at j2
        exact ⟨j, t, x, y, j1, j2.1, j2.2, rfl⟩
      have nd : (l.map Prod.fst).Nodup := by
        show (h5.objs.size :: lt.map Prod.fst).Nodup
        rw [fst, List.nodup_cons]
        exact ⟨fun z => absurd (hG.above _ z) (Nat.lt_irrefl _), hG.nd.imp fun h => Nat.ne_of_lt h⟩
      obtain ⟨I5, old⟩ := lays (h' := h') (t' := tk) (l := l) I1 fr nd (fun q hq => by
        rcases List.mem_cons.mp hq with e | e
        · rw [e]; exact pos5
        · obtain ⟨j, t, x, y, j1, _, _, rfl⟩ := mem q e
          exact Nat.le_trans pos5 (Nat.le_of_lt (hG.above t (List.mem_of_getElem? j1)))) (fun q hq => by
        rcases List.mem_cons.mp hq with e | e
        · rw [e]
          refine ⟨?_, acc.toList, c, ?_, ?_⟩
          · rw [List.length_map, hl]
            rw [e1] at zz
            exact Nat.le_trans (Nat.min_le_left _ _) zz
          · rw [hacc]
            refine vals_of_at (by rw [List.length_map, List.length_map]) fun j v u h1 h2 => ?_
            rw [List.getElem?_map] at h1 h2
            cases ha : as[j]? with
            | none => rw [ha] at h1; cases h1
            | some a =>
              rw [ha] at h1 h2
              cases h1
              cases h2
              rfl
          · simpa using hS'
        · obtain ⟨j, t, x, y, j1, j2, j3, rfl⟩ := mem q e
          obtain ⟨x', y', k1, k2, k3⟩ := hG.pairs j t j1
          obtain ⟨u1, hu1, ru1⟩ := rv.get j2
          obtain ⟨u2, hu2, ru2⟩ := rv2.get j3
          have ex : u1 = x' := by
            have h3 : its[j]? = some x' := by simpa using k1
            rw [hu1] at h3
            exact Option.some.inj h3
          have ey : u2 = y' := by
            have h3 : its2[j]? = some y' := by simpa using k2
            rw [hu2] at h3
            exact Option.some.inj h3
          subst ex ey
          exact ⟨by show 2 ≤ sizeLine; decide, [u1, u2], .cons ru1 (.cons ru2 .nil), ⟨_, k3, rfl, _, rfl⟩⟩)
      refine ⟨.ref h5.objs.size, _, I5, rfl, q _ _ as old (I1.hok.fresh pos5) (updL_mem nd (List.mem_cons_self ..)) hl fun j t hj => ?_⟩
      have jl := (List.getElem?_eq_some_iff.mp hj).1
      rw [hl] at jl
      have jx : xs[j]? = some (xs[j]'(by omega)) := List.getElem?_eq_getElem (by omega)
      have jy : ys[j]? = some (ys[j]'(by omega)) := List.getElem?_eq_getElem (by omega)
      refine ⟨_, _, jx, jy, updL_mem nd (List.mem_cons_of_mem _ ?_)⟩
      refine List.mem_map.mpr ⟨(t, xs[j]'(by omega), ys[j]'(by omega)), ?_, rfl⟩
      refine List.mem_of_getElem? (i := j) ?_
      rw [List.getElem?_zip_eq_some]
      refine ⟨hj, ?_⟩
      rw [List.getElem?_zip_eq_some]
      exact ⟨jx, jy⟩
end XW
namespace My
open PySem L2 SX XT XS XE XD XL XZ
def top (i : Nat) : Stmt := PySem.Challenge.pw_livequill_k33_lists_sorted_and_joined.main.body.getD i (.Pass ⟨0, 0, 0, 0⟩)
abbrev s_kind_of : Stmt := top 14
theorem sc_kind_of : FnScope ["store", "value"] ["store", "value"] (defScope s_kind_of) := ⟨rfl, rfl, rfl, by decide +kernel, rfl, by decide +kernel, by decide +kernel⟩
abbrev s_kind_of_thing : Stmt := top 15
theorem sc_kind_of_thing : FnScope ["thing"] ["thing"] (defScope s_kind_of_thing) := ⟨rfl, rfl, rfl, by decide +kernel, rfl, by decide +kernel, by decide +kernel⟩
abbrev s_is_key : Stmt := top 17
theorem sc_is_key : FnScope ["value"] ["value"] (defScope s_is_key) := ⟨rfl, rfl, rfl, by decide +kernel, rfl, by decide +kernel, by decide +kernel⟩
abbrev s_check_size : Stmt := top 21
theorem sc_check_size : FnScope ["size"] ["size"] (defScope s_check_size) := ⟨rfl, rfl, rfl, by decide +kernel, rfl, by decide +kernel, by decide +kernel⟩
abbrev s_is_bounded : Stmt := top 22
theorem sc_is_bounded : FnScope ["number"] ["number"] (defScope s_is_bounded) := ⟨rfl, rfl, rfl, by decide +kernel, rfl, by decide +kernel, by decide +kernel⟩
abbrev s_checked_integer : Stmt := top 23
theorem sc_checked_integer : FnScope ["number"] ["number"] (defScope s_checked_integer) := ⟨rfl, rfl, rfl, by decide +kernel, rfl, by decide +kernel, by decide +kernel⟩
abbrev s_check_count : Stmt := top 27
theorem sc_check_count : FnScope ["values", "wanted"] ["values", "wanted"] (defScope s_check_count) := ⟨rfl, rfl, rfl, by decide +kernel, rfl, by decide +kernel, by decide +kernel⟩
abbrev s_check_arguments : Stmt := top 28
theorem sc_check_arguments : FnScope ["store", "values", "kinds", "value", "kind"] ["store", "values", "kinds"] (defScope s_check_arguments) := ⟨rfl, rfl, rfl, by decide +kernel, rfl, by decide +kernel, by decide +kernel⟩
abbrev s_check_kind : Stmt := top 29
theorem sc_check_kind : FnScope ["store", "value", "kind"] ["store", "value", "kind"] (defScope s_check_kind) := ⟨rfl, rfl, rfl, by decide +kernel, rfl, by decide +kernel, by decide +kernel⟩
abbrev s_check_alike : Stmt := top 30
theorem sc_check_alike : FnScope ["store", "values", "value"] ["store", "values"] (defScope s_check_alike) := ⟨rfl, rfl, rfl, by decide +kernel, rfl, by decide +kernel, by decide +kernel⟩
abbrev s_refuse_field : Stmt := top 31
theorem sc_refuse_field : FnScope ["store", "x", "name"] ["store", "x", "name"] (defScope s_refuse_field) := ⟨rfl, rfl, rfl, by decide +kernel, rfl, by decide +kernel, by decide +kernel⟩
abbrev s_make_list : Stmt := top 36
theorem sc_make_list : FnScope ["store", "values"] ["store", "values"] (defScope s_make_list) := ⟨rfl, rfl, rfl, by decide +kernel, rfl, by decide +kernel, by decide +kernel⟩
abbrev s_quoted : Stmt := top 39
theorem sc_quoted : FnScope ["text", "held"] ["text"] (defScope s_quoted) := ⟨rfl, rfl, rfl, by decide +kernel, rfl, by decide +kernel, by decide +kernel⟩
abbrev s_write_value : Stmt := top 42
theorem sc_write_value : FnScope ["store", "value", "most", "form"] ["store", "value", "most"] (defScope s_write_value) := ⟨rfl, rfl, rfl, by decide +kernel, rfl, by decide +kernel, by decide +kernel⟩
abbrev s_text_of : Stmt := top 43
theorem sc_text_of : FnScope ["store", "value", "most"] ["store", "value", "most"] (defScope s_text_of) := ⟨rfl, rfl, rfl, by decide +kernel, rfl, by decide +kernel, by decide +kernel⟩
abbrev s_write : Stmt := top 45
theorem sc_write : FnScope ["form", "value", "thing"] ["form", "value"] (defScope s_write) := ⟨rfl, rfl, rfl, by decide +kernel, rfl, by decide +kernel, by decide +kernel⟩
abbrev s_write_around : Stmt := top 46
theorem sc_write_around : FnScope ["form", "ref", "opening", "closing"] ["form", "ref", "opening", "closing"] (defScope s_write_around) := ⟨rfl, rfl, rfl, by decide +kernel, rfl, by decide +kernel, by decide +kernel⟩
abbrev s_write_held : Stmt := top 47
theorem sc_write_held : FnScope ["form", "thing", "gap", "held", "at", "value"] ["form", "thing"] (defScope s_write_held) := ⟨rfl, rfl, rfl, by decide +kernel, rfl, by decide +kernel, by decide +kernel⟩
abbrev s_held_by : Stmt := top 48
theorem sc_held_by : FnScope ["thing", "part"] ["thing"] (defScope s_held_by) := ⟨rfl, rfl, rfl, by decide +kernel, rfl, by decide +kernel, by decide +kernel⟩
abbrev s_plain_form : Stmt := top 49
theorem sc_plain_form : FnScope ["form", "value", "thing", "name"] ["form", "value", "thing"] (defScope s_plain_form) := ⟨rfl, rfl, rfl, by decide +kernel, rfl, by decide +kernel, by decide +kernel⟩
abbrev s_join : Stmt := top 60
theorem sc_join : FnScope ["store", "parts", "between"] ["store", "parts", "between"] (defScope s_join) := ⟨rfl, rfl, rfl, by decide +kernel, rfl, by decide +kernel, by decide +kernel⟩
abbrev s_joined : Stmt := top 61
theorem sc_joined : FnScope ["store", "values", "between", "pieces", "size", "value"] ["store", "values", "between"] (defScope s_joined) := ⟨rfl, rfl, rfl, by decide +kernel, rfl, by decide +kernel, by decide +kernel⟩
abbrev s_sort : Stmt := top 69
theorem sc_sort : FnScope ["store", "parts"] ["store", "parts"] (defScope s_sort) := ⟨rfl, rfl, rfl, by decide +kernel, rfl, by decide +kernel, by decide +kernel⟩
abbrev s_extend : Stmt := top 70
theorem sc_extend : FnScope ["store", "parts", "other", "more"] ["store", "parts", "other"] (defScope s_extend) := ⟨rfl, rfl, rfl, by decide +kernel, rfl, by decide +kernel, by decide +kernel⟩
abbrev s_total : Stmt := top 71
theorem sc_total : FnScope ["store", "parts", "part"] ["store", "parts"] (defScope s_total) := ⟨rfl, rfl, rfl, by decide +kernel, rfl, by decide +kernel, by decide +kernel⟩
abbrev s_pair_up : Stmt := top 74
theorem sc_pair_up : FnScope ["store", "parts", "other"] ["store", "parts", "other"] (defScope s_pair_up) := ⟨rfl, rfl, rfl, by decide +kernel, rfl, by decide +kernel, by decide +kernel⟩
abbrev s_make_pairs : Stmt := top 75
theorem sc_make_pairs : FnScope ["store", "pairs", "pair"] ["store", "pairs"] (defScope s_make_pairs) := ⟨rfl, rfl, rfl, by decide +kernel, rfl, by decide +kernel, by decide +kernel⟩
abbrev s_call_method : Stmt := top 116
theorem sc_call_method : FnScope ["store", "x", "name", "values", "method", "action", "kinds", "owner"] ["store", "x", "name", "values"] (defScope s_call_method) := ⟨rfl, rfl, rfl, by decide +kernel, rfl, by decide +kernel, by decide +kernel⟩
abbrev s_method_for : Stmt := top 117
theorem sc_method_for : FnScope ["owner", "name"] ["owner", "name"] (defScope s_method_for) := ⟨rfl, rfl, rfl, by decide +kernel, rfl, by decide +kernel, by decide +kernel⟩
abbrev s_law_rows : Stmt := top 121
theorem sc_law_rows : FnScope ["script", "count_v", "rows", "k", "cell"] ["script", "count_v"] (defScope s_law_rows) := ⟨rfl, rfl, rfl, by decide +kernel, rfl, by decide +kernel, by decide +kernel⟩
abbrev s_law_draw : Stmt := top 122
theorem sc_law_draw : FnScope ["state", "count_v", "row"] ["state", "count_v"] (defScope s_law_draw) := ⟨rfl, rfl, rfl, by decide +kernel, rfl, by decide +kernel, by decide +kernel⟩
abbrev s_law_greatest : Stmt := top 123
theorem sc_law_greatest : FnScope ["number", "k"] [] (defScope s_law_greatest) := ⟨rfl, rfl, rfl, by decide +kernel, rfl, by decide +kernel, by decide +kernel⟩
abbrev s_law_integer : Stmt := top 124
theorem sc_law_integer : FnScope ["state", "choice"] ["state"] (defScope s_law_integer) := ⟨rfl, rfl, rfl, by decide +kernel, rfl, by decide +kernel, by decide +kernel⟩
abbrev s_law_word : Stmt := top 125
theorem sc_law_word : FnScope ["state"] ["state"] (defScope s_law_word) := ⟨rfl, rfl, rfl, by decide +kernel, rfl, by decide +kernel, by decide +kernel⟩
abbrev s_law_part : Stmt := top 126
theorem sc_law_part : FnScope ["state", "kind"] ["state", "kind"] (defScope s_law_part) := ⟨rfl, rfl, rfl, by decide +kernel, rfl, by decide +kernel, by decide +kernel⟩
abbrev s_law_parts : Stmt := top 127
theorem sc_law_parts : FnScope ["state", "kind", "k"] ["state"] (defScope s_law_parts) := ⟨rfl, rfl, rfl, by decide +kernel, rfl, by decide +kernel, by decide +kernel⟩
abbrev s_law_call : Stmt := top 128
theorem sc_law_call : FnScope ["store", "number", "name", "values", "error"] ["store", "number", "name", "values"] (defScope s_law_call) := ⟨rfl, rfl, rfl, by decide +kernel, rfl, by decide +kernel, by decide +kernel⟩
abbrev s_law_kind : Stmt := top 129
theorem sc_law_kind : FnScope ["parts", "integers", "texts", "part"] ["parts"] (defScope s_law_kind) := ⟨rfl, rfl, rfl, by decide +kernel, rfl, by decide +kernel, by decide +kernel⟩
abbrev s_law_same : Stmt := top 130
theorem sc_law_same : FnScope ["parts", "others", "k"] ["parts", "others"] (defScope s_law_same) := ⟨rfl, rfl, rfl, by decide +kernel, rfl, by decide +kernel, by decide +kernel⟩
abbrev s_law_ordered : Stmt := top 131
theorem sc_law_ordered : FnScope ["parts", "ordered", "part", "at"] ["parts"] (defScope s_law_ordered) := ⟨rfl, rfl, rfl, by decide +kernel, rfl, by decide +kernel, by decide +kernel⟩
abbrev s_law_joined : Stmt := top 132
theorem sc_law_joined : FnScope ["store", "parts", "between", "text", "k"] ["store", "parts", "between"] (defScope s_law_joined) := ⟨rfl, rfl, rfl, by decide +kernel, rfl, by decide +kernel, by decide +kernel⟩
abbrev s_law_join : Stmt := top 133
theorem sc_law_join : FnScope ["store", "number", "parts", "between", "told", "due"] ["store", "number", "parts", "between"] (defScope s_law_join) := ⟨rfl, rfl, rfl, by decide +kernel, rfl, by decide +kernel, by decide +kernel⟩
abbrev s_law_sum : Stmt := top 134
theorem sc_law_sum : FnScope ["store", "number", "parts", "told", "total_v", "part"] ["store", "number", "parts"] (defScope s_law_sum) := ⟨rfl, rfl, rfl, by decide +kernel, rfl, by decide +kernel, by decide +kernel⟩
abbrev s_law_zip : Stmt := top 135
theorem sc_law_zip : FnScope ["store", "number", "other", "parts", "others", "before", "told", "many", "k"] ["store", "number", "other", "parts", "others"] (defScope s_law_zip) := ⟨rfl, rfl, rfl, by decide +kernel, rfl, by decide +kernel, by decide +kernel⟩
abbrev s_law_sort : Stmt := top 136
theorem sc_law_sort : FnScope ["store", "number", "parts", "told", "held"] ["store", "number", "parts"] (defScope s_law_sort) := ⟨rfl, rfl, rfl, by decide +kernel, rfl, by decide +kernel, by decide +kernel⟩
abbrev s_law_extend : Stmt := top 137
theorem sc_law_extend : FnScope ["store", "number", "other", "parts", "others", "told", "held"] ["store", "number", "other", "parts", "others"] (defScope s_law_extend) := ⟨rfl, rfl, rfl, by decide +kernel, rfl, by decide +kernel, by decide +kernel⟩
abbrev s_law : Stmt := top 138
theorem sc_law : FnScope ["script", "state", "turn", "store", "parts", "others", "between"] ["script"] (defScope s_law) := ⟨rfl, rfl, rfl, by decide +kernel, rfl, by decide +kernel, by decide +kernel⟩
abbrev s_Ref_init : Stmt := inClass (top 5) 0
theorem sc_Ref_init : FnScope ["self", "number"] ["self", "number"] (defScope s_Ref_init) := ⟨rfl, rfl, rfl, by decide +kernel, rfl, by decide +kernel, by decide +kernel⟩
abbrev s_Ref_eq : Stmt := inClass (top 5) 1
theorem sc_Ref_eq : FnScope ["self", "other"] ["self", "other"] (defScope s_Ref_eq) := ⟨rfl, rfl, rfl, by decide +kernel, rfl, by decide +kernel, by decide +kernel⟩
abbrev s_Builtin_init : Stmt := inClass (top 6) 0
theorem sc_Builtin_init : FnScope ["self", "name"] ["self", "name"] (defScope s_Builtin_init) := ⟨rfl, rfl, rfl, by decide +kernel, rfl, by decide +kernel, by decide +kernel⟩
abbrev s_Builtin_eq : Stmt := inClass (top 6) 1
theorem sc_Builtin_eq : FnScope ["self", "other"] ["self", "other"] (defScope s_Builtin_eq) := ⟨rfl, rfl, rfl, by decide +kernel, rfl, by decide +kernel, by decide +kernel⟩
abbrev s_Parts_init : Stmt := inClass (top 8) 0
theorem sc_Parts_init : FnScope ["self", "held"] ["self", "held"] (defScope s_Parts_init) := ⟨rfl, rfl, rfl, by decide +kernel, rfl, by decide +kernel, by decide +kernel⟩
abbrev s_Table_pairs : Stmt := inClass (top 9) 5
theorem sc_Table_pairs : FnScope ["self"] ["self"] (defScope s_Table_pairs) := ⟨rfl, rfl, rfl, by decide +kernel, rfl, by decide +kernel, by decide +kernel⟩
abbrev s_Kin_init : Stmt := inClass (top 12) 0
theorem sc_Kin_init : FnScope ["self", "name", "parent"] ["self", "name", "parent"] (defScope s_Kin_init) := ⟨rfl, rfl, rfl, by decide +kernel, rfl, by decide +kernel, by decide +kernel⟩
abbrev s_Form_init : Stmt := inClass (top 44) 0
theorem sc_Form_init : FnScope ["self", "store", "most"] ["self", "store", "most"] (defScope s_Form_init) := ⟨rfl, rfl, rfl, by decide +kernel, rfl, by decide +kernel, by decide +kernel⟩
abbrev s_Form_add : Stmt := inClass (top 44) 1
theorem sc_Form_add : FnScope ["self", "text"] ["self", "text"] (defScope s_Form_add) := ⟨rfl, rfl, rfl, by decide +kernel, rfl, by decide +kernel, by decide +kernel⟩
abbrev s_Form_is_enough : Stmt := inClass (top 44) 2
theorem sc_Form_is_enough : FnScope ["self"] ["self"] (defScope s_Form_is_enough) := ⟨rfl, rfl, rfl, by decide +kernel, rfl, by decide +kernel, by decide +kernel⟩
abbrev s_Store_init : Stmt := inClass (top 119) 0
theorem sc_Store_init : FnScope ["self", "lines"] ["self", "lines"] (defScope s_Store_init) := ⟨rfl, rfl, rfl, by decide +kernel, rfl, by decide +kernel, by decide +kernel⟩
abbrev s_Store_make : Stmt := inClass (top 119) 1
theorem sc_Store_make : FnScope ["self", "thing"] ["self", "thing"] (defScope s_Store_make) := ⟨rfl, rfl, rfl, by decide +kernel, rfl, by decide +kernel, by decide +kernel⟩
abbrev s_Store_at : Stmt := inClass (top 119) 2
theorem sc_Store_at : FnScope ["self", "ref"] ["self", "ref"] (defScope s_Store_at) := ⟨rfl, rfl, rfl, by decide +kernel, rfl, by decide +kernel, by decide +kernel⟩
abbrev sx_ScriptError : Stmt := inClass (top 3) 0
/-- where the classes stand -/
structure Ads where
  Ref : Addr
  Builtin : Addr
  Parts : Addr
  Table : Addr
  Instance : Addr
  Kin : Addr
  Form : Addr
  Store : Addr
  LivequillError : Addr
  ScriptError : Addr
structure CF (K : PySem.W.Frag) (mg : Str → Option Value) (C : Addr) (nm : Str) : Prop where
  cl : Cls K C
  g : mg nm = some (.ref C)
  ty : ∀ {H : Hp} {a dx : Addr} {fs : List (Str × V)}, H a = some (.ins C dx fs) → TyX K H (.ref a) (.ref C)
structure Fx (K : PySem.W.Frag) (mg : Str → Option Value) (nm : Str) (st : Stmt) (ps : List Str) where
  f : Addr
  fd : FuncData
  F : Fun K nm nm st f fd
  b : Binds K fd ps []
  g : mg nm = some (.ref f)
structure Mx (K : PySem.W.Frag) (C : Addr) (nm qual : Str) (st : Stmt) (ps : List Str) where
  f : Addr
  fd : FuncData
  F : Fun K nm qual st f fd
  b : Binds K fd ps []
  m : Meth K C nm f
structure Ix (K : PySem.W.Frag) (C : Addr) (qual : Str) (st : Stmt) (ps : List Str) where
  f : Addr
  fd : FuncData
  F : Fun K "__init__" qual st f fd
  b : Binds K fd ps []
  m : Mk K C f
structure OwnEq (K : PySem.W.Frag) (C f : Addr) : Prop where
  at_ : PySem.W.findIn K (.ref C) "__eq__" = some (some (.ref f))
  fn : PySem.W.isFn K (.ref f) = true
structure Qx (K : PySem.W.Frag) (C : Addr) (qual : Str) (st : Stmt) (ps : List Str) where
  f : Addr
  fd : FuncData
  F : Fun K "__eq__" qual st f fd
  b : Binds K fd ps []
  m : OwnEq K C f
structure Tx (K : PySem.W.Frag) (mg : Str → Option Value) (nm : Str) (vs : List V) where
  a : Addr
  g : mg nm = some (.ref a)
  s : ∀ H, SqT K H a vs
structure Xx (P : Program) (K : PySem.W.Frag) (mg : Str → Option Value) (C : Addr) (nm n1 n2 : Str) where
  f : Addr
  fd : FuncData
  T : Exn P K mg C f n1 n2
  F : ∀ w base, FnOk P w K mg base CX0 1 f fd ["self", n1, n2] (spTwo C n1 n2)
  b : Binds K fd ["self", n1, n2] []
  g : mg nm = some (.ref C)
  ec : ExcC K C
structure Gx (mg : Str → Option Value) (C : Addr) (nm : Str) : Prop where
  g : mg nm = some (.ref C)
/-- what the written part says -/
structure Lib (P : Program) (K : PySem.W.Frag) (mg : Str → Option Value) (A : Ads) where
  z_range : mg "range" = none
  z_len : mg "len" = none
  z_int : mg "int" = none
  z_str : mg "str" = none
  z_bool : mg "bool" = none
  z_isinstance : mg "isinstance" = none
  z_list : mg "list" = none
  z_abs : mg "abs" = none
  z_min : mg "min" = none
  z_enumerate : mg "enumerate" = none
  z_zip : mg "zip" = none
  z_sorted : mg "sorted" = none
  z_sum : mg "sum" = none
  c_Ref : CF K mg A.Ref "Ref"
  n_Ref_number : PySem.W.findIn K (.ref A.Ref) "number" = some none
  c_Builtin : CF K mg A.Builtin "Builtin"
  n_Builtin_name : PySem.W.findIn K (.ref A.Builtin) "name" = some none
  c_Parts : CF K mg A.Parts "Parts"
  n_Parts_held : PySem.W.findIn K (.ref A.Parts) "held" = some none
  c_Table : CF K mg A.Table "Table"
  n_Table__entries : PySem.W.findIn K (.ref A.Table) "_entries" = some none
  c_Instance : CF K mg A.Instance "Instance"
  n_Instance_owner : PySem.W.findIn K (.ref A.Instance) "owner" = some none
  c_Kin : CF K mg A.Kin "Kin"
  n_Kin_name : PySem.W.findIn K (.ref A.Kin) "name" = some none
  n_Kin_parent : PySem.W.findIn K (.ref A.Kin) "parent" = some none
  n_Kin_methods : PySem.W.findIn K (.ref A.Kin) "methods" = some none
  c_Form : CF K mg A.Form "Form"
  n_Form_store : PySem.W.findIn K (.ref A.Form) "store" = some none
  n_Form_most : PySem.W.findIn K (.ref A.Form) "most" = some none
  n_Form_pieces : PySem.W.findIn K (.ref A.Form) "pieces" = some none
  n_Form_size : PySem.W.findIn K (.ref A.Form) "size" = some none
  n_Form_around : PySem.W.findIn K (.ref A.Form) "around" = some none
  c_Store : CF K mg A.Store "Store"
  n_Store_things : PySem.W.findIn K (.ref A.Store) "things" = some none
  n_Store_output : PySem.W.findIn K (.ref A.Store) "output" = some none
  n_Store_lines : PySem.W.findIn K (.ref A.Store) "lines" = some none
  n_Store_taken : PySem.W.findIn K (.ref A.Store) "taken" = some none
  x_LivequillError : Gx mg A.LivequillError "LivequillError"
  x_ScriptError : Xx P K mg A.ScriptError "ScriptError" "kind" "message"
  k_ScriptError_LivequillError : PySem.W.kitOne K (.ref A.ScriptError) (.ref A.LivequillError) = some true
  k_Ref_Builtin : PySem.W.kitOne K (.ref A.Ref) (.ref A.Builtin) = some false
  k_Ref_bool : PySem.W.kitOne K (.ref A.Ref) (.type "bool") = some false
  k_Ref_int : PySem.W.kitOne K (.ref A.Ref) (.type "int") = some false
  k_Ref_str : PySem.W.kitOne K (.ref A.Ref) (.type "str") = some false
  k_Builtin_Ref : PySem.W.kitOne K (.ref A.Builtin) (.ref A.Ref) = some false
  k_Builtin_bool : PySem.W.kitOne K (.ref A.Builtin) (.type "bool") = some false
  k_Builtin_int : PySem.W.kitOne K (.ref A.Builtin) (.type "int") = some false
  k_Builtin_str : PySem.W.kitOne K (.ref A.Builtin) (.type "str") = some false
  k_Parts_Ref : PySem.W.kitOne K (.ref A.Parts) (.ref A.Ref) = some false
  k_Parts_Table : PySem.W.kitOne K (.ref A.Parts) (.ref A.Table) = some false
  k_Parts_Instance : PySem.W.kitOne K (.ref A.Parts) (.ref A.Instance) = some false
  k_Parts_Kin : PySem.W.kitOne K (.ref A.Parts) (.ref A.Kin) = some false
  k_Parts_Builtin : PySem.W.kitOne K (.ref A.Parts) (.ref A.Builtin) = some false
  k_Table_Ref : PySem.W.kitOne K (.ref A.Table) (.ref A.Ref) = some false
  k_Table_Parts : PySem.W.kitOne K (.ref A.Table) (.ref A.Parts) = some false
  k_Table_Instance : PySem.W.kitOne K (.ref A.Table) (.ref A.Instance) = some false
  k_Table_Kin : PySem.W.kitOne K (.ref A.Table) (.ref A.Kin) = some false
  k_Table_Builtin : PySem.W.kitOne K (.ref A.Table) (.ref A.Builtin) = some false
  k_Instance_Ref : PySem.W.kitOne K (.ref A.Instance) (.ref A.Ref) = some false
  k_Instance_Parts : PySem.W.kitOne K (.ref A.Instance) (.ref A.Parts) = some false
  k_Instance_Table : PySem.W.kitOne K (.ref A.Instance) (.ref A.Table) = some false
  k_Instance_Kin : PySem.W.kitOne K (.ref A.Instance) (.ref A.Kin) = some false
  k_Instance_Builtin : PySem.W.kitOne K (.ref A.Instance) (.ref A.Builtin) = some false
  k_Kin_Ref : PySem.W.kitOne K (.ref A.Kin) (.ref A.Ref) = some false
  k_Kin_Parts : PySem.W.kitOne K (.ref A.Kin) (.ref A.Parts) = some false
  k_Kin_Table : PySem.W.kitOne K (.ref A.Kin) (.ref A.Table) = some false
  k_Kin_Instance : PySem.W.kitOne K (.ref A.Kin) (.ref A.Instance) = some false
  k_Kin_Builtin : PySem.W.kitOne K (.ref A.Kin) (.ref A.Builtin) = some false
  k_Form_Ref : PySem.W.kitOne K (.ref A.Form) (.ref A.Ref) = some false
  k_Form_Builtin : PySem.W.kitOne K (.ref A.Form) (.ref A.Builtin) = some false
  k_Store_Ref : PySem.W.kitOne K (.ref A.Store) (.ref A.Ref) = some false
  k_Store_Parts : PySem.W.kitOne K (.ref A.Store) (.ref A.Parts) = some false
  k_Store_Builtin : PySem.W.kitOne K (.ref A.Store) (.ref A.Builtin) = some false
  k_NoneType_Ref : PySem.W.kitOne K (.type "NoneType") (.ref A.Ref) = some false
  k_NoneType_Parts : PySem.W.kitOne K (.type "NoneType") (.ref A.Parts) = some false
  k_NoneType_Table : PySem.W.kitOne K (.type "NoneType") (.ref A.Table) = some false
  k_NoneType_Instance : PySem.W.kitOne K (.type "NoneType") (.ref A.Instance) = some false
  k_NoneType_Kin : PySem.W.kitOne K (.type "NoneType") (.ref A.Kin) = some false
  k_NoneType_Builtin : PySem.W.kitOne K (.type "NoneType") (.ref A.Builtin) = some false
  k_bool_Ref : PySem.W.kitOne K (.type "bool") (.ref A.Ref) = some false
  k_bool_Builtin : PySem.W.kitOne K (.type "bool") (.ref A.Builtin) = some false
  k_int_Ref : PySem.W.kitOne K (.type "int") (.ref A.Ref) = some false
  k_int_Builtin : PySem.W.kitOne K (.type "int") (.ref A.Builtin) = some false
  k_str_Ref : PySem.W.kitOne K (.type "str") (.ref A.Ref) = some false
  k_str_Builtin : PySem.W.kitOne K (.type "str") (.ref A.Builtin) = some false
  nf_Ref_NoneType : PySem.W.notFirst K A.Ref (.type "NoneType") = true
  su_Ref_NoneType : PySem.W.subIn K (.ref A.Ref) (.type "NoneType") = some false
  nf_Ref_int : PySem.W.notFirst K A.Ref (.type "int") = true
  su_Ref_int : PySem.W.subIn K (.ref A.Ref) (.type "int") = some false
  nf_Ref_str : PySem.W.notFirst K A.Ref (.type "str") = true
  su_Ref_str : PySem.W.subIn K (.ref A.Ref) (.type "str") = some false
  nf_Ref_Builtin : PySem.W.notFirst K A.Ref (.ref A.Builtin) = true
  nf_Builtin_NoneType : PySem.W.notFirst K A.Builtin (.type "NoneType") = true
  su_Builtin_NoneType : PySem.W.subIn K (.ref A.Builtin) (.type "NoneType") = some false
  nf_Builtin_int : PySem.W.notFirst K A.Builtin (.type "int") = true
  su_Builtin_int : PySem.W.subIn K (.ref A.Builtin) (.type "int") = some false
  nf_Builtin_str : PySem.W.notFirst K A.Builtin (.type "str") = true
  su_Builtin_str : PySem.W.subIn K (.ref A.Builtin) (.type "str") = some false
  nf_Builtin_Ref : PySem.W.notFirst K A.Builtin (.ref A.Ref) = true
  v_MOST_HELD : ∃ t, mg "MOST_HELD" = some (.int 1000 t)
  v_DOUBTFUL_BITS : ∃ t, mg "DOUBTFUL_BITS" = some (.int 997 t)
  v_MOST_AROUND : ∃ t, mg "MOST_AROUND" = some (.int 10 t)
  kind_of : Fx K mg "kind_of" s_kind_of ["store", "value"]
  kind_of_thing : Fx K mg "kind_of_thing" s_kind_of_thing ["thing"]
  is_key : Fx K mg "is_key" s_is_key ["value"]
  check_size : Fx K mg "check_size" s_check_size ["size"]
  is_bounded : Fx K mg "is_bounded" s_is_bounded ["number"]
  checked_integer : Fx K mg "checked_integer" s_checked_integer ["number"]
  check_count : Fx K mg "check_count" s_check_count ["values", "wanted"]
  check_arguments : Fx K mg "check_arguments" s_check_arguments ["store", "values", "kinds"]
  check_kind : Fx K mg "check_kind" s_check_kind ["store", "value", "kind"]
  check_alike : Fx K mg "check_alike" s_check_alike ["store", "values"]
  refuse_field : Fx K mg "refuse_field" s_refuse_field ["store", "x", "name"]
  make_list : Fx K mg "make_list" s_make_list ["store", "values"]
  quoted : Fx K mg "quoted" s_quoted ["text"]
  write_value : Fx K mg "write_value" s_write_value ["store", "value", "most"]
  text_of : Fx K mg "text_of" s_text_of ["store", "value", "most"]
  write : Fx K mg "write" s_write ["form", "value"]
  write_around : Fx K mg "write_around" s_write_around ["form", "ref", "opening", "closing"]
  write_held : Fx K mg "write_held" s_write_held ["form", "thing"]
  held_by : Fx K mg "held_by" s_held_by ["thing"]
  plain_form : Fx K mg "plain_form" s_plain_form ["form", "value", "thing"]
  join : Fx K mg "join" s_join ["store", "parts", "between"]
  joined : Fx K mg "joined" s_joined ["store", "values", "between"]
  sort : Fx K mg "sort" s_sort ["store", "parts"]
  extend : Fx K mg "extend" s_extend ["store", "parts", "other"]
  total : Fx K mg "total" s_total ["store", "parts"]
  pair_up : Fx K mg "pair_up" s_pair_up ["store", "parts", "other"]
  make_pairs : Fx K mg "make_pairs" s_make_pairs ["store", "pairs"]
  call_method : Fx K mg "call_method" s_call_method ["store", "x", "name", "values"]
  method_for : Fx K mg "method_for" s_method_for ["owner", "name"]
  law_rows : Fx K mg "_law_rows" s_law_rows ["script", "count_v"]
  law_draw : Fx K mg "_law_draw" s_law_draw ["state", "count_v"]
  law_greatest : Fx K mg "_law_greatest" s_law_greatest []
  law_integer : Fx K mg "_law_integer" s_law_integer ["state"]
  law_word : Fx K mg "_law_word" s_law_word ["state"]
  law_part : Fx K mg "_law_part" s_law_part ["state", "kind"]
  law_parts : Fx K mg "_law_parts" s_law_parts ["state"]
  law_call : Fx K mg "_law_call" s_law_call ["store", "number", "name", "values"]
  law_kind : Fx K mg "_law_kind" s_law_kind ["parts"]
  law_same : Fx K mg "_law_same" s_law_same ["parts", "others"]
  law_ordered : Fx K mg "_law_ordered" s_law_ordered ["parts"]
  law_joined : Fx K mg "_law_joined" s_law_joined ["store", "parts", "between"]
  law_join : Fx K mg "_law_join" s_law_join ["store", "number", "parts", "between"]
  law_sum : Fx K mg "_law_sum" s_law_sum ["store", "number", "parts"]
  law_zip : Fx K mg "_law_zip" s_law_zip ["store", "number", "other", "parts", "others"]
  law_sort : Fx K mg "_law_sort" s_law_sort ["store", "number", "parts"]
  law_extend : Fx K mg "_law_extend" s_law_extend ["store", "number", "other", "parts", "others"]
  Ref_init : Ix K A.Ref "Ref.__init__" s_Ref_init ["self", "number"]
  Ref_eq : Qx K A.Ref "Ref.__eq__" s_Ref_eq ["self", "other"]
  Builtin_init : Ix K A.Builtin "Builtin.__init__" s_Builtin_init ["self", "name"]
  Builtin_eq : Qx K A.Builtin "Builtin.__eq__" s_Builtin_eq ["self", "other"]
  Parts_init : Ix K A.Parts "Parts.__init__" s_Parts_init ["self", "held"]
  Table_pairs : Mx K A.Table "pairs" "Table.pairs" s_Table_pairs ["self"]
  Kin_init : Ix K A.Kin "Kin.__init__" s_Kin_init ["self", "name", "parent"]
  Form_init : Ix K A.Form "Form.__init__" s_Form_init ["self", "store", "most"]
  Form_add : Mx K A.Form "add" "Form.add" s_Form_add ["self", "text"]
  Form_is_enough : Mx K A.Form "is_enough" "Form.is_enough" s_Form_is_enough ["self"]
  Store_init : Ix K A.Store "Store.__init__" s_Store_init ["self", "lines"]
  Store_make : Mx K A.Store "make" "Store.make" s_Store_make ["self", "thing"]
  Store_at : Mx K A.Store "at" "Store.at" s_Store_at ["self", "ref"]
end My
namespace My
open PySem L2 SX XT XS XE
open C8 (pss_cut tCut cutS_slice pe_gc)
def Keep (p : Addr) (H H' : Hp) : Prop := ∀ b o, H b = some o → b ≠ p → H' b = some o
theorem Same.keep {p : Addr} {H H' : Hp} (s : Same H H') : Keep p H H' := fun b o e _ => s b o e
theorem Keep.trans {p : Addr} {H H1 H2 : Hp} (a : Keep p H H1) (b : Keep p H1 H2) : Keep p H H2 := fun c o e n => b c o (a c o e n) n
theorem keep_upd {p : Addr} {H : Hp} {o : HO} : Keep p H (upd H p o) := fun b x e n => by
  rw [upd_ne n]
  exact e
theorem same_upd {H : Hp} {p : Addr} {o : HO} (h : H p = none) : Same H (upd H p o) := fun b x e => by
  rw [upd_ne (ne_of_none e h)]
  exact e
theorem lk_hit {k : Str} {v : V} {r : List (Str × V)} : ((k, v) :: r).lookup k = some v := by
  simp [List.lookup]
theorem ifF {b : Bool} {A B : Prop} (h : b = false) (q : B) : if b = true then A else B := by
  rw [h]
  exact iteF q
theorem ifT {b : Bool} {A B : Prop} (h : b = true) (q : A) : if b = true then A else B := by
  rw [h]
  exact iteT q
theorem ite_or {b : Bool} {A B : Prop} (h1 : b = true → A) (h2 : b = false → B) : if b = true then A else B := by
  cases b with
  | true => exact iteT (h1 rfl)
  | false => exact iteF (h2 rfl)
theorem lk_skip {k k' : Str} {v : V} {r : List (Str × V)} (h : (k == k') = false) : ((k', v) :: r).lookup k = r.lookup k := by
  simp [List.lookup, h]
theorem kit_self {K : PySem.W.Frag} (C : Addr) : PySem.W.kitOne K (.ref C) (.ref C) = some true := if_pos (beq_self_eq_true _)
theorem nf_self {K : PySem.W.Frag} (C : Addr) : PySem.W.notFirst K C (.ref C) = true := by simp [PySem.W.notFirst]
theorem ne_cls {K : PySem.W.Frag} {C D : Addr} (h : PySem.W.kitOne K (.ref C) (.ref D) = some false) : C ≠ D := fun z => by
  rw [z, kit_self] at h
  cases h
theorem Same.put {H H' : Hp} {p : Addr} {o : HO} (s : Same H H') (h : H p = none) : Same H (upd H' p o) := fun b x e => by
  rw [upd_ne (ne_of_none e h)]
  exact s _ _ e
end My
namespace My
open PySem L2 SX
open C8 (pss_cut tCut cutS_slice pe_gc)
/-! ### == between values of which one has its own __eq__ -/
section
variable {prog : Program} {w : World} {A : Around} {E : Value → Shared → Prop} {s : Shared} {K : PySem.W.Frag} {x C L f : Addr} {h₀ : Heap} {m : Str → Option Value} {ox : Obj} {od : Option Obj}
theorem cmp_back {a : Value} {Ta id : String} {Q : Value → Shared → Prop} (hu : A.units < cLine) (F : PyProof.Rows.Fr h₀ L s.heap m) (X₀ : K.In h₀) (I : PySem.W.InstAt s.heap x ox C od) (ha : s.TypeIs a Ta) (h1 : Slot Ta "__eq__" id)
    (hsub : PySem.W.subIn K (.ref C) (.type Ta) = some false) (hc : ∀ Q' : Value → Shared → Prop, Q' .notImplemented s → wpAny (model prog w) A (call (.builtin id) [a, .ref x]) Q' E s)
    (hs : PySem.W.findIn K (.ref C) "__eq__" = some (some (.ref f))) (hf : PySem.W.isFn K (.ref f) = true)
    (h : wpAny (model prog w) A (call (.ref f) [.ref x, a]) (PySem.W.CmpBack Q) E s) : wpAny (model prog w) A (richCompare .Eq a (.ref x)) Q E s := by
  have X := X₀.keeps F.keep
  have one : wpAny (model prog w) A (tryCompare (.ref x) "__eq__" a) (fun r s' => ∃ v, r = some v ∧ Q v s') E s := by
    unfold tryCompare
    refine wpAny_bind (PySem.W.ifBound_K X I hs hf (wpAny_mono h (fun v s' hv => ?_) fun _ _ e => e))
    cases v <;> first | exact hv.elim | exact wpAny_pure ⟨_, rfl, hv⟩
  unfold richCompare
  simp only [cmpInfo, ha.oneThing_none]
  refine wpAny_holding (wpAny_bind (wpAny_cRoomFor hu ?_))
  refine wpAny_bind (wpAny_typeOf ha (wpAny_bind (I.type.here ?_)))
  have hne : (Value.ref C == Value.type Ta) = false := rfl
  have hne' : (Value.type Ta != Value.ref C) = true := rfl
  simp only [hne', if_true]
  refine wpAny_bind ((PySem.W.looks_subIn X hsub).here ?_)
  simp only [Bool.false_eq_true, if_false, Bool.not_false, if_true]
  refine wpAny_bind (m := tryCompare a _ _) (wpAny_tryCompare_declines ha h1 (hc _ ⟨rfl, ?_⟩))
  refine wpAny_bind (wpAny_mono one (fun r s' z => ?_) fun _ _ e => e)
  obtain ⟨v, rfl, hq⟩ := z
  exact wpAny_pure hq
end
theorem int_eq_declines_ins (b : Int) (u : Tok) (l : Addr) (o : Obj) :
    PySem.Meets (Builtin.«int.__eq__» ⟨[.int b u, .ref l], []⟩) (fun _ R s => s.heap.get? l = some o ∧ o.data = .plain ∧ (∃ C, o.cls = .ref C) ∧ R (.ok (.ret .notImplemented)) s) :=
  .of_wp fun prog w A R s h => by
    obtain ⟨hp, g, d, tk, os⟩ := s
    obtain ⟨hl, hd, ⟨C, hC⟩, h⟩ := h
    obtain ⟨cls, dd, dat, sl⟩ := o
    cases hd
    cases hC
    wp_walk using PySem.AutoSeq1.wpAny_loadPart' hl, wpAny_load hl
    exact ⟨_, rfl, h⟩
theorem str_eq_declines_ins (b : Str) (u : Tok) (l : Addr) (o : Obj) :
    PySem.Meets (Builtin.«str.__eq__» ⟨[.str b u, .ref l], []⟩) (fun _ R s => s.heap.get? l = some o ∧ o.data = .plain ∧ (∃ C, o.cls = .ref C) ∧ R (.ok (.ret .notImplemented)) s) :=
  .of_wp fun prog w A R s h => by
    obtain ⟨hp, g, d, tk, os⟩ := s
    obtain ⟨hl, hd, ⟨C, hC⟩, h⟩ := h
    obtain ⟨cls, dd, dat, sl⟩ := o
    cases hd
    cases hC
    wp_walk using PySem.AutoSeq1.wpAny_loadPart' hl, wpAny_load hl
    exact ⟨_, rfl, h⟩
/-- the type of a scalar or of an instance -/
inductive TyE (H : Hp) : V → Value → Prop where
  | non : TyE H .non (.type "NoneType")
  | bl (b : Bool) : TyE H (.bl b) (.type "bool")
  | int (i : Int) : TyE H (.int i) (.type "int")
  | str (x : Str) : TyE H (.str x) (.type "str")
  | ins {a C dx : Addr} {fs : List (Str × V)} (e : H a = some (.ins C dx fs)) : TyE H (.ref a) (.ref C)
theorem TyE.looks {X : Cx} {pins : List (Addr × Obj)} {s : Shared} {σ : St} {H : Hp} {y : V} {u t : Value} (I : Inv X pins σ H s) (r : RelV y u) (ty : TyE H y t) : PySem.W.Looks (model X.prog X.w) s.heap (typeOf u) t := by
  cases ty with
  | non => cases (show u = Value.none from r); exact .of_pure rfl
  | bl b => cases (show u = Value.bool b from r); exact .of_pure rfl
  | int i => obtain ⟨t', e⟩ := (show ∃ t, u = Value.int i t from r); cases e; exact .of_pure rfl
  | str x => obtain ⟨t', e⟩ := (show ∃ t, u = Value.str x t from r); cases e; exact .of_pure rfl
  | ins e =>
    cases (show u = Value.ref _ from r)
    obtain ⟨mA, J, _⟩ := ins_get I.hok e
    obtain ⟨od, J, _⟩ := J.look
    exact J.type
/-- what the call of the own == gives back -/
theorem own_run {X : Cx} {n : Nat} {CX : CXT} {f : Addr} {fd : FuncData} {ps : List Str} {sp : Sp} {E : XK} (F : FnOk X.prog X.w X.K X.mg X.base CX n f fd ps sp) (hb : Binds X.K fd ps []) (hx : Passes CX X E) (hr : Room n X.A)
    {pins : List (Addr × Obj)} {s : Shared} {σ : St} {H : Hp} {x y : V} {v u : Value} {Q : VK} (I : Inv X pins σ H s) (rx : RelV x v) (ry : RelV y u) (h : sp [x, y] H (fun z H' => ∃ b, z = .bl b ∧ Q (.bl b) H') E) :
    wpAny (model X.prog X.w) X.A (call (.ref f) [v, u]) (PySem.W.CmpBack (EP X pins σ Q)) X.xe s := by
  have hl := F.len _ _ _ _ h
  have r2 : Vals [x, y] [v, u] := .cons rx (.cons ry .nil)
  refine wpAny_call (codeAny_mono (F.run X.A X.stack s H ⟨[v, u], []⟩ [v, u] [x, y] _ E hr I.env0 (by
    have := hb s [v, u] I.kIn (by simpa using hl)
    simpa using this) r2 h) fun r s' hq => ?_)
  cases r with
  | error e => exact hx pins σ H s e s' I hq
  | ok fl =>
    cases fl with
    | ret w =>
      obtain ⟨z, H', I', rz, b, ez, q⟩ := I.after hq
      subst ez
      cases (show w = Value.bool b from rz)
      exact ⟨.bl b, H', I', rfl, q⟩
    | next => exact False.elim hq
    | brk => exact False.elim hq
    | cont => exact False.elim hq
/-- an instance with its own == on the left -/
theorem op_eqL {X : Cx} {n : Nat} {CX : CXT} {C f : Addr} {fd : FuncData} {ps : List Str} {sp : Sp} {E : XK} (O : OwnEq X.K C f) (F : FnOk X.prog X.w X.K X.mg X.base CX n f fd ps sp) (hb : Binds X.K fd ps []) (hx : Passes CX X E) (hr : Room n X.A) :
    OpR X (compareOp .Eq) (fun x y H Q => ∃ a dx fs tb, x = .ref a ∧ H a = some (.ins C dx fs) ∧ TyE H y tb ∧ PySem.W.notFirst X.K C tb = true ∧ sp [x, y] H (fun z H' => ∃ b, z = .bl b ∧ Q (.bl b) H') E) := by
  intro pins s σ H x y v u Q I rx ry h
  obtain ⟨a, dx, fs, tb, rfl, ha, ty, hn, h⟩ := h
  cases (show v = Value.ref a from rx)
  obtain ⟨mA, J, _⟩ := ins_get I.hok ha
  obtain ⟨od, J, _⟩ := J.look
  obtain ⟨m, hF⟩ := I.fr
  show wpAny (model X.prog X.w) X.A (richCompare .Eq (.ref a) u) (EP X pins σ Q) X.xe s
  exact PySem.W.cmp_K (op := .Eq) hr.units0 hF I.ok.mod.kin J (ty.looks I ry) hn O.at_ O.fn (own_run F hb hx hr I (x := .ref a) (v := .ref a) rfl ry h)
/-- a scalar on the left, an instance with its own == on the right -/
theorem op_eqR {X : Cx} {n : Nat} {CX : CXT} {C f : Addr} {fd : FuncData} {ps : List Str} {sp : Sp} {E : XK} (O : OwnEq X.K C f) (F : FnOk X.prog X.w X.K X.mg X.base CX n f fd ps sp) (hb : Binds X.K fd ps []) (hx : Passes CX X E) (hr : Room n X.A)
    (h1 : PySem.W.subIn X.K (.ref C) (.type "NoneType") = some false) (h2 : PySem.W.subIn X.K (.ref C) (.type "int") = some false) (h3 : PySem.W.subIn X.K (.ref C) (.type "str") = some false) :
    OpR X (compareOp .Eq) (fun x y H Q => ∃ a dx fs, y = .ref a ∧ H a = some (.ins C dx fs) ∧ (x = .non ∨ (∃ i, x = .int i) ∨ ∃ z, x = .str z) ∧ sp [y, x] H (fun z H' => ∃ b, z = .bl b ∧ Q (.bl b) H') E) := by
  intro pins s σ H x y v u Q I rx ry h
  obtain ⟨a, dx, fs, rfl, ha, hx', h⟩ := h
  cases (show u = Value.ref a from ry)
  obtain ⟨mA, J, _⟩ := ins_get I.hok ha
  have hob := J.obj
  obtain ⟨od, J, _⟩ := J.look
  obtain ⟨m, hF⟩ := I.fr
  show wpAny (model X.prog X.w) X.A (richCompare .Eq v (.ref a)) (EP X pins σ Q) X.xe s
  have hc := own_run F hb hx hr I (x := .ref a) (v := .ref a) (u := v) rfl rx h
  rcases hx' with rfl | ⟨i, rfl⟩ | ⟨z, rfl⟩
  · cases (show v = Value.none from rx)
    exact cmp_back hr.units0 hF I.ok.mod.kin J (Ta := "NoneType") rfl PySem.F.slot_NoneType_eq h1 (fun Q' hq => call_gives PySem.F.slot_NoneType_eq rfl PySem.F.entry_NoneType_eq (PySem.F.args_NoneType_eq_2 _ _) (SeqAt.NoneType___eq___none_ref_0 a) hq) O.at_ O.fn hc
  · obtain ⟨t, rfl⟩ := (show ∃ t, v = Value.int i t from rx)
    exact cmp_back hr.units0 hF I.ok.mod.kin J (Ta := "int") (typeIs_int s i t) PySem.F.slot_int_eq h2 (fun Q' hq => call_meets PySem.F.slot_int_eq (typeIs_int s i t) PySem.F.entry_int_eq (PySem.F.args_int_eq_2 _ _) (int_eq_declines_ins i t a _) ⟨hob, rfl, ⟨_, rfl⟩, hq⟩) O.at_ O.fn hc
  · obtain ⟨t, rfl⟩ := (show ∃ t, v = Value.str z t from rx)
    exact cmp_back hr.units0 hF I.ok.mod.kin J (Ta := "str") (typeIs_str s z t) PySem.F.slot_str_eq h3 (fun Q' hq => call_meets PySem.F.slot_str_eq (typeIs_str s z t) PySem.F.entry_str_eq (PySem.F.args_str_eq_2 _ _) (str_eq_declines_ins z t a _) ⟨hob, rfl, ⟨_, rfl⟩, hq⟩) O.at_ O.fn hc
end My
namespace My
open PySem L2 SX XT XS XE
open C8 (pss_cut tCut cutS_slice pe_gc)
/-! ### values -/
inductive Dv where
  | non
  | bl (b : Bool)
  | int (i : Int)
  | str (x : Str)
  | obj (n : Nat)
  | bi (x : Str)
  deriving DecidableEq
abbrev refF (n : Nat) : List (Str × V) := [("number", .int (n : Nat))]
def Has (A : Ads) (H : Hp) : V → Dv → Prop := fun v d => match d with
  | .non => v = .non
  | .bl b => v = .bl b
  | .int i => v = .int i
  | .str x => v = .str x
  | .obj n => ∃ a dx, v = .ref a ∧ H a = some (.ins A.Ref dx (refF n))
  | .bi x => ∃ a dx, v = .ref a ∧ H a = some (.ins A.Builtin dx [("name", .str x)])
/-- what is not a list stays -/
def Sv (H H' : Hp) : Prop := ∀ b u, H b = some u → (∀ xs, u ≠ .lst xs) → H' b = some u
theorem Same.sv {H H' : Hp} (s : Same H H') : Sv H H' := fun b u e _ => s b u e
theorem Sv.trans {H H1 H2 : Hp} (a : Sv H H1) (b : Sv H1 H2) : Sv H H2 := fun c u e n => b c u (a c u e n) n
theorem Keep.sv {H H' : Hp} {p : Addr} {xs : List V} (k : Keep p H H') (hp : H p = some (.lst xs)) : Sv H H' := fun b u e n => k b u e fun z => by
  rw [z, hp] at e
  exact n _ (Option.some.inj e).symm
theorem Has.sv {A : Ads} {H H' : Hp} (s : Sv H H') {v : V} {d : Dv} (h : Has A H v d) : Has A H' v d := by
  cases d with
  | obj n =>
    obtain ⟨a, dx, rfl, e⟩ := h
    exact ⟨a, dx, rfl, s _ _ e fun _ z => by cases z⟩
  | bi x =>
    obtain ⟨a, dx, rfl, e⟩ := h
    exact ⟨a, dx, rfl, s _ _ e fun _ z => by cases z⟩
  | _ => exact h
def Hs (A : Ads) (H : Hp) : List V → List Dv → Prop
  | [], [] => True
  | v :: vs, d :: ds => Has A H v d ∧ Hs A H vs ds
  | _, _ => False
theorem Hs.imp {A : Ads} {H H' : Hp} (s : ∀ v d, Has A H v d → Has A H' v d) : ∀ {vs : List V} {ds : List Dv}, Hs A H vs ds → Hs A H' vs ds
  | [], [], _ => trivial
  | _ :: _, _ :: _, h => ⟨s _ _ h.1, Hs.imp s h.2⟩
  | [], _ :: _, h => h.elim
  | _ :: _, [], h => h.elim
theorem Hs.len {A : Ads} {H : Hp} : ∀ {vs : List V} {ds : List Dv}, Hs A H vs ds → vs.length = ds.length
  | [], [], _ => rfl
  | _ :: _, _ :: _, h => congrArg (· + 1) (Hs.len h.2)
  | [], _ :: _, h => h.elim
  | _ :: _, [], h => h.elim
theorem Hs.at {A : Ads} {H : Hp} : ∀ {vs : List V} {ds : List Dv} {i : Nat} {d : Dv}, Hs A H vs ds → ds[i]? = some d → ∃ v, vs[i]? = some v ∧ Has A H v d
  | _ :: _, _ :: _, 0, _, h, e => by
    simp at e
    exact ⟨_, rfl, e ▸ h.1⟩
  | _ :: _, _ :: _, i + 1, _, h, e => by
    simp at e
    obtain ⟨v, e1, e2⟩ := Hs.at h.2 e
    exact ⟨v, by simpa using e1, e2⟩
  | [], _ :: _, _, _, h, _ => h.elim
  | _ :: _, [], _, _, h, _ => h.elim
  | [], [], _, _, _, e => by simp at e
theorem Hs.app {A : Ads} {H : Hp} : ∀ {vs us : List V} {ds es : List Dv}, Hs A H vs ds → Hs A H us es → Hs A H (vs ++ us) (ds ++ es)
  | [], _, [], _, _, h => h
  | _ :: _, _, _ :: _, _, h, g => ⟨h.1, Hs.app h.2 g⟩
  | [], _, _ :: _, _, h, _ => h.elim
  | _ :: _, _, [], _, h, _ => h.elim
theorem Hs.drop {A : Ads} {H : Hp} : ∀ {vs : List V} {ds : List Dv} (n : Nat), Hs A H vs ds → Hs A H (vs.drop n) (ds.drop n)
  | _, _, 0, h => by simpa using h
  | [], [], _ + 1, _ => trivial
  | _ :: _, _ :: _, n + 1, h => Hs.drop n h.2
  | [], _ :: _, _ + 1, h => h.elim
  | _ :: _, [], _ + 1, h => h.elim
theorem Hs.take {A : Ads} {H : Hp} : ∀ {vs : List V} {ds : List Dv} (n : Nat), Hs A H vs ds → Hs A H (vs.take n) (ds.take n)
  | _, _, 0, _ => by simp [Hs]
  | [], [], _ + 1, _ => trivial
  | _ :: _, _ :: _, n + 1, h => ⟨h.1, Hs.take n h.2⟩
  | [], _ :: _, _ + 1, h => h.elim
  | _ :: _, [], _ + 1, h => h.elim
/-! ### kinds -/
def dB : Dv → Bool
  | .bl _ => true
  | _ => false
def dI : Dv → Bool
  | .bl _ => true
  | .int _ => true
  | _ => false
def dS : Dv → Bool
  | .str _ => true
  | _ => false
def dR : Dv → Bool
  | .obj _ => true
  | _ => false
def dBi : Dv → Bool
  | .bi _ => true
  | _ => false
def tyD (A : Ads) : Dv → Value
  | .non => .type "NoneType"
  | .bl _ => .type "bool"
  | .int _ => .type "int"
  | .str _ => .type "str"
  | .obj _ => .ref A.Ref
  | .bi _ => .ref A.Builtin
section
variable {P : Program} {w : World} {K : PySem.W.Frag} {mg : Str → Option Value} {base : Heap} {A : Ads}
theorem has_ty (L : Lib P K mg A) {H : Hp} {v : V} {d : Dv} (h : Has A H v d) : TyX K H v (tyD A d) := by
  cases d with
  | non => cases h; exact .base .non
  | bl b => cases h; exact .base (.bl b)
  | int b => cases h; exact .base (.int b)
  | str b => cases h; exact .base (.str b)
  | obj n =>
    obtain ⟨a, dx, rfl, h⟩ := h
    exact L.c_Ref.ty h
  | bi n =>
    obtain ⟨a, dx, rfl, h⟩ := h
    exact L.c_Builtin.ty h
theorem kit_bool (L : Lib P K mg A) (d : Dv) : PySem.W.kitOne K (tyD A d) (.type "bool") = some (dB d) := by
  cases d with
  | non => exact kit_ty (show kitB "NoneType" "bool" = some false by decide +kernel)
  | bl b => exact kit_ty (show kitB "bool" "bool" = some true by decide +kernel)
  | int b => exact kit_ty (show kitB "int" "bool" = some false by decide +kernel)
  | str b => exact kit_ty (show kitB "str" "bool" = some false by decide +kernel)
  | obj n => exact L.k_Ref_bool
  | bi n => exact L.k_Builtin_bool
theorem kit_int (L : Lib P K mg A) (d : Dv) : PySem.W.kitOne K (tyD A d) (.type "int") = some (dI d) := by
  cases d with
  | non => exact kit_ty (show kitB "NoneType" "int" = some false by decide +kernel)
  | bl b => exact kit_ty (show kitB "bool" "int" = some true by decide +kernel)
  | int b => exact kit_ty (show kitB "int" "int" = some true by decide +kernel)
  | str b => exact kit_ty (show kitB "str" "int" = some false by decide +kernel)
  | obj n => exact L.k_Ref_int
  | bi n => exact L.k_Builtin_int
theorem kit_str (L : Lib P K mg A) (d : Dv) : PySem.W.kitOne K (tyD A d) (.type "str") = some (dS d) := by
  cases d with
  | non => exact kit_ty (show kitB "NoneType" "str" = some false by decide +kernel)
  | bl b => exact kit_ty (show kitB "bool" "str" = some false by decide +kernel)
  | int b => exact kit_ty (show kitB "int" "str" = some false by decide +kernel)
  | str b => exact kit_ty (show kitB "str" "str" = some true by decide +kernel)
  | obj n => exact L.k_Ref_str
  | bi n => exact L.k_Builtin_str
theorem kit_R (L : Lib P K mg A) (d : Dv) : PySem.W.kitOne K (tyD A d) (.ref A.Ref) = some (dR d) := by
  cases d with
  | non => exact L.k_NoneType_Ref
  | bl b => exact L.k_bool_Ref
  | int b => exact L.k_int_Ref
  | str b => exact L.k_str_Ref
  | obj n => exact kit_self _
  | bi n => exact L.k_Builtin_Ref
theorem kit_B (L : Lib P K mg A) (d : Dv) : PySem.W.kitOne K (tyD A d) (.ref A.Builtin) = some (dBi d) := by
  cases d with
  | non => exact L.k_NoneType_Builtin
  | bl b => exact L.k_bool_Builtin
  | int b => exact L.k_int_Builtin
  | str b => exact L.k_str_Builtin
  | obj n => exact L.k_Ref_Builtin
  | bi n => exact kit_self _
/-! ### Ref, Builtin -/
def spI1 (C : Addr) (n : Str) : Sp := fun vs H Q _ => ∃ a dx v, vs = [.ref a, v] ∧ H a = some (.ins C dx []) ∧ ∀ H', Keep a H H' → H' a = some (.ins C dx [(n, v)]) → Q .non H'
theorem ok_Ref_init (L : Lib P K mg A) : FnOk P w K mg base CX0 1 L.Ref_init.f L.Ref_init.fd ["self", "number"] (spI1 A.Ref "number") := by
  refine L.Ref_init.F.ok sc_Ref_init (fun vs H Q E h => ?_) (fun cdv A' outer s H vs Q E hr h => ?_)
  · obtain ⟨a, dx, v, rfl, _⟩ := h
    rfl
  · obtain ⟨a, dx, v, rfl, ha, q⟩ := h
    refine ⟨_, (pss_one (ps_fld (pv 0) (pv 1) rfl)), ?_⟩
    exact ⟨_, rfl, _, rfl, a, A.Ref, dx, [], rfl, ha, L.c_Ref.cl, L.n_Ref_number, (by show 0 < 1000; decide), q _ keep_upd upd_same⟩
theorem ok_Builtin_init (L : Lib P K mg A) : FnOk P w K mg base CX0 1 L.Builtin_init.f L.Builtin_init.fd ["self", "name"] (spI1 A.Builtin "name") := by
  refine L.Builtin_init.F.ok sc_Builtin_init (fun vs H Q E h => ?_) (fun cdv A' outer s H vs Q E hr h => ?_)
  · obtain ⟨a, dx, v, rfl, _⟩ := h
    rfl
  · obtain ⟨a, dx, v, rfl, ha, q⟩ := h
    refine ⟨_, (pss_one (ps_fld (pv 0) (pv 1) rfl)), ?_⟩
    exact ⟨_, rfl, _, rfl, a, A.Builtin, dx, [], rfl, ha, L.c_Builtin.cl, L.n_Builtin_name, (by show 0 < 1000; decide), q _ keep_upd upd_same⟩
def spERq (A : Ads) : Sp := fun vs H Q _ => ∃ a dx n y d, vs = [.ref a, y] ∧ H a = some (.ins A.Ref dx (refF n)) ∧ Has A H y d ∧ Q (.bl (decide (Dv.obj n = d))) H
theorem ok_Ref_eq (L : Lib P K mg A) : FnOk P w K mg base CX0 1 L.Ref_eq.f L.Ref_eq.fd ["self", "other"] (spERq A) := by
  refine L.Ref_eq.F.ok sc_Ref_eq (fun vs H Q E h => ?_) (fun cdv A' outer s H vs Q E hr h => ?_)
  · obtain ⟨a, dx, n, y, d, rfl, _⟩ := h
    rfl
  · obtain ⟨a, dx, n, y, d, rfl, ha, hy, q⟩ := h
    refine ⟨_, (pss_one (ps_ret (pe_and (pe_callB call_isi (by rfl) L.z_isinstance (by decide +kernel) (pa_cons (pv 1) (pa_cons (pe_gc (v := .ref A.Ref) (by rfl) ⟨_, L.c_Ref.g, rfl⟩) pa_nil))) (pe_one (pe_cmpR op_eq (pe_fld (pv 0) rfl) (pe_fld (pv 1) rfl) (nomark _)))))), ?_⟩
    refine ⟨_, rfl, y, .ref A.Ref, tyD A d, .ref A.Ref, dR d, rfl, .own _, has_ty L hy, kit_R L d, dR d, rfl, ?_⟩
    cases d with
    | obj m =>
      obtain ⟨b, dy, rfl, hb⟩ := hy
      refine iteT ⟨_, rfl, a, A.Ref, dx, _, _, rfl, ha, L.c_Ref.cl, L.n_Ref_number, lk_hit, _, rfl, b, A.Ref, dy, _, _, rfl, hb, L.c_Ref.cl, L.n_Ref_number, lk_hit, rfl, ?_⟩
      rw [show decide (V.int (n : Nat) = V.int (m : Nat)) = decide (Dv.obj n = Dv.obj m) by simp; omega]
      exact q
    | _ => exact iteF (by simpa using q)
def spEBq (A : Ads) : Sp := fun vs H Q _ => ∃ a dx n y d, vs = [.ref a, y] ∧ H a = some (.ins A.Builtin dx [("name", .str n)]) ∧ Has A H y d ∧ Q (.bl (decide (Dv.bi n = d))) H
theorem ok_Builtin_eq (L : Lib P K mg A) : FnOk P w K mg base CX0 1 L.Builtin_eq.f L.Builtin_eq.fd ["self", "other"] (spEBq A) := by
  refine L.Builtin_eq.F.ok sc_Builtin_eq (fun vs H Q E h => ?_) (fun cdv A' outer s H vs Q E hr h => ?_)
  · obtain ⟨a, dx, n, y, d, rfl, _⟩ := h
    rfl
  · obtain ⟨a, dx, n, y, d, rfl, ha, hy, q⟩ := h
    refine ⟨_, (pss_one (ps_ret (pe_and (pe_callB call_isi (by rfl) L.z_isinstance (by decide +kernel) (pa_cons (pv 1) (pa_cons (pe_gc (v := .ref A.Builtin) (by rfl) ⟨_, L.c_Builtin.g, rfl⟩) pa_nil))) (pe_one (pe_cmpR op_eq (pe_fld (pv 0) rfl) (pe_fld (pv 1) rfl) (nomark _)))))), ?_⟩
    refine ⟨_, rfl, y, .ref A.Builtin, tyD A d, .ref A.Builtin, dBi d, rfl, .own _, has_ty L hy, kit_B L d, dBi d, rfl, ?_⟩
    cases d with
    | bi m =>
      obtain ⟨b, dy, rfl, hb⟩ := hy
      refine iteT ⟨_, rfl, a, A.Builtin, dx, _, _, rfl, ha, L.c_Builtin.cl, L.n_Builtin_name, lk_hit, _, rfl, b, A.Builtin, dy, _, _, rfl, hb, L.c_Builtin.cl, L.n_Builtin_name, lk_hit, rfl, ?_⟩
      rw [show decide (V.str n = V.str m) = decide (Dv.bi n = Dv.bi m) by simp]
      exact q
    | _ => exact iteF (by simpa using q)
/-- == of two values, of which either both are booleans or none is -/
def rEqM (A : Ads) : R2 := fun x y H Q => ∃ d e, Has A H x d ∧ Has A H y e ∧ dB d = dB e ∧ Q (.bl (decide (d = e))) H
theorem op_eqM {X : Cx} (L : Lib X.prog X.K X.mg A) (hr : Room 1 X.A) : OpR X (compareOp .Eq) (rEqM A) := by
  have FR : FnOk X.prog X.w X.K X.mg X.base CX0 1 L.Ref_eq.f L.Ref_eq.fd ["self", "other"] (spERq A) := ok_Ref_eq L
  have FB : FnOk X.prog X.w X.K X.mg X.base CX0 1 L.Builtin_eq.f L.Builtin_eq.fd ["self", "other"] (spEBq A) := ok_Builtin_eq L
  intro pins s σ H x y v u Q I rx ry h
  obtain ⟨d, e, hd, he, hb, q⟩ := h
  have tyE : ∀ {z : V} {g : Dv}, Has A H z g → TyE H z (tyD A g) := by
    intro z g hz
    cases g with
    | non => cases hz; exact .non
    | bl b => cases hz; exact .bl b
    | int b => cases hz; exact .int b
    | str b => cases hz; exact .str b
    | obj n =>
      obtain ⟨a, dx, rfl, hz⟩ := hz
      exact .ins hz
    | bi n =>
      obtain ⟨a, dx, rfl, hz⟩ := hz
      exact .ins hz
  have nfR : dB e = false → PySem.W.notFirst X.K A.Ref (tyD A e) = true := by
    intro z
    cases e with
    | non => exact L.nf_Ref_NoneType
    | bl b => cases z
    | int b => exact L.nf_Ref_int
    | str b => exact L.nf_Ref_str
    | obj n => exact nf_self _
    | bi n => exact L.nf_Ref_Builtin
  have nfB : dB e = false → PySem.W.notFirst X.K A.Builtin (tyD A e) = true := by
    intro z
    cases e with
    | non => exact L.nf_Builtin_NoneType
    | bl b => cases z
    | int b => exact L.nf_Builtin_int
    | str b => exact L.nf_Builtin_str
    | obj n => exact L.nf_Builtin_Ref
    | bi n => exact nf_self _
  cases hdd : d with
  | obj n =>
    subst hdd
    obtain ⟨a, dx, rfl, ha⟩ := hd
    exact op_eqL L.Ref_eq.m FR L.Ref_eq.b (E := E0) pass0 hr pins s σ H _ y v u Q I rx ry ⟨a, dx, _, _, rfl, ha, tyE he, nfR hb.symm, a, dx, n, y, e, rfl, ha, he, _, rfl, q⟩
  | bi n =>
    subst hdd
    obtain ⟨a, dx, rfl, ha⟩ := hd
    exact op_eqL L.Builtin_eq.m FB L.Builtin_eq.b (E := E0) pass0 hr pins s σ H _ y v u Q I rx ry ⟨a, dx, _, _, rfl, ha, tyE he, nfB hb.symm, a, dx, n, y, e, rfl, ha, he, _, rfl, q⟩
  | _ =>
    subst hdd
    cases hee : e with
    | obj n =>
      subst hee
      obtain ⟨a, dx, rfl, ha⟩ := he
      first
        | (cases hb; done)
        | exact op_eqR L.Ref_eq.m FR L.Ref_eq.b (E := E0) pass0 hr L.su_Ref_NoneType L.su_Ref_int L.su_Ref_str pins s σ H _ _ v u Q I rx ry ⟨a, dx, _, rfl, ha, (by first | exact .inl hd | exact .inr (.inl ⟨_, hd⟩) | exact .inr (.inr ⟨_, hd⟩)), a, dx, n, _, _, rfl, ha, hd, _, rfl, by simpa [eq_comm] using q⟩
    | bi n =>
      subst hee
      obtain ⟨a, dx, rfl, ha⟩ := he
      first
        | (cases hb; done)
        | exact op_eqR L.Builtin_eq.m FB L.Builtin_eq.b (E := E0) pass0 hr L.su_Builtin_NoneType L.su_Builtin_int L.su_Builtin_str pins s σ H _ _ v u Q I rx ry ⟨a, dx, _, rfl, ha, (by first | exact .inl hd | exact .inr (.inl ⟨_, hd⟩) | exact .inr (.inr ⟨_, hd⟩)), a, dx, n, _, _, rfl, ha, hd, _, rfl, by simpa [eq_comm] using q⟩
    | _ =>
      subst hee
      cases hd
      cases he
      first
        | (cases hb; done)
        | exact op_eq pins s σ H _ _ v u Q I rx ry ⟨(by rfl), by simpa using q⟩
end
end My
namespace My
open PySem L2 SX XT XS XE
open C8 (pss_cut tCut cutS_slice pe_gc)
def tabF (d : Addr) : List (Str × V) := [("_entries", .ref d)]
structure TblAt (P : Program) (w : World) (A : Ads) (H : Hp) (t : Addr) (d : Addr) (es : List Ent) : Prop where
  ins : ∃ dx, H t = some (.ins A.Table dx (tabF d))
  tab : XT.TabAt P w H d es
  vals : ∀ e ∈ es, ∃ q, e.2.2 = .ref q ∧ ∃ v, H q = some (.tup [e.1, v])
section
variable {P : Program} {w : World} {K : PySem.W.Frag} {mg : Str → Option Value} {base : Heap} {A : Ads}
theorem units64 {A : Around} {k : Nat} (hr : Room k A) : A.units + 64 < cLine := hr.units
theorem tab_lk (d : Addr) : (tabF d).lookup ("_entries" : Str) = some (.ref d) := lk_hit
theorem tab_none {d : Addr} {n : Str} (h : (n == ("_entries" : Str)) = false) : (tabF d).lookup n = none := by
  simp [tabF, List.lookup, h]
theorem TblAt.same {H H' : Hp} {t d : Addr} {es : List Ent} (s : Same H H') (h : TblAt P w A H t d es) : TblAt P w A H' t d es := by
  obtain ⟨⟨dx, h1⟩, h2, h3⟩ := h
  refine ⟨⟨dx, s _ _ h1⟩, ⟨s _ _ h2.at_, fun e he => ⟨(h2.keys e he).1, s _ _ (h2.keys e he).2⟩, h2.len⟩, fun e he => ?_⟩
  obtain ⟨q, e1, v, e2⟩ := h3 e he
  exact ⟨q, e1, v, s _ _ e2⟩
def spTPairs (P : Program) (w : World) (A : Ads) : Sp := fun vs H Q _ => ∃ t d es, vs = [.ref t] ∧ TblAt P w A H t d es ∧ ∀ H' l, Same H H' → H l = none → H' l = some (.lst (es.map (·.2.2))) → Q (.ref l) H'
theorem ok_Table_pairs (L : Lib P K mg A) : FnOk P w K mg base CX0 1 L.Table_pairs.f L.Table_pairs.fd ["self"] (spTPairs P w A) := by
  refine L.Table_pairs.F.ok sc_Table_pairs (fun vs H Q E h => ?_) (fun cdv A' outer s H vs Q E hr h => ?_)
  · obtain ⟨t, d, es, rfl, _⟩ := h
    rfl
  · obtain ⟨t, d, es, rfl, T, kk⟩ := h
    refine ⟨_, (pss_one (ps_ret (pe_callTy (call_list_vals rfl) (by rfl) L.z_list (by decide +kernel) (pa_cons (pe_tvals (pe_fld (pv 0) rfl)) pa_nil)))), ?_⟩
    obtain ⟨⟨dx, h1⟩, h2, h3⟩ := id T
    refine ⟨_, rfl, t, A.Table, dx, _, _, rfl, h1, L.c_Table.cl, L.n_Table__entries, tab_lk d, d, es, rfl, h2, fun v nv => ?_⟩
    have u1 := same_upd (o := ViewO d v) nv
    refine ⟨v, d, es, rfl, upd_same, (T.same u1).tab, fun l nl => ?_⟩
    have u2 := same_upd (o := .lst (es.map (·.2.2))) nl
    refine kk _ l (u1.trans u2) ?_ upd_same
    cases e : H l with
    | none => rfl
    | some o =>
      rw [u1 _ _ e] at nl
      cases nl
end
end My
namespace My
open PySem L2 SX XT XS XE
open C8 (pss_cut tCut cutS_slice pe_gc)
/-! ### things -/
def toV : Dv → V
  | .non => .non
  | .bl b => .bl b
  | .int i => .int i
  | .str x => .str x
  | _ => .non
def keyD : Dv → Bool
  | .obj _ => false
  | .bi _ => false
  | _ => true
theorem key_has {A : Ads} {H : Hp} {d : Dv} (k : keyD d = true) : Has A H (toV d) d := by
  cases d with
  | obj n => cases k
  | bi x => cases k
  | _ => rfl
theorem toV_inj {d e : Dv} (hd : keyD d = true) (he : keyD e = true) (h : toV d = toV e) : d = e := by
  cases d <;> cases e <;> first | rfl | (cases hd; done) | (cases he; done) | (cases h; rfl) | (cases h; done)
def Ents (A : Ads) (H : Hp) : List Ent → List (Dv × Dv) → Prop
  | [], [] => True
  | e :: es, p :: ps => (keyD p.1 = true ∧ e.1 = toV p.1 ∧ ∃ q v, e.2.2 = .ref q ∧ H q = some (.tup [e.1, v]) ∧ Has A H v p.2) ∧ Ents A H es ps
  | _, _ => False
inductive Th where
  | parts (ds : List Dv)
  | table (es : List (Dv × Dv))
  | inst (o : Dv) (ns : List (Str × Dv))
  | kin (nm : Str) (par : Dv) (ms : List (Str × Dv))
def Nmd (A : Ads) (H : Hp) : List (Key × V) → List (Str × Dv) → Prop
  | [], [] => True
  | e :: es, p :: ps => (e.1 = .inr p.1 ∧ Has A H e.2 p.2) ∧ Nmd A H es ps
  | _, _ => False
def kinF (nm : Str) (v : V) (m : Addr) : List (Str × V) := [("name", .str nm), ("parent", v), ("methods", .ref m)]
def insF (v : V) (m : Addr) : List (Str × V) := [("owner", v), ("named", .ref m)]
def ThAt (P : Program) (w : World) (A : Ads) (H : Hp) (x m : Addr) : Th → Prop
  | .parts ds => ∃ dx vs, H x = some (.ins A.Parts dx [("held", .ref m)]) ∧ H m = some (.lst vs) ∧ Hs A H vs ds
  | .table es => ∃ ents, TblAt P w A H x m ents ∧ Ents A H ents es ∧ (es.map Prod.fst).Nodup ∧ es.length ≤ 1000
  | .inst o ns => ∃ dx v kvs, H x = some (.ins A.Instance dx (insF v m)) ∧ Has A H v o ∧ H m = some (.dK kvs) ∧ Nmd A H kvs ns
  | .kin nm par ms => ∃ dx v kvs, H x = some (.ins A.Kin dx (kinF nm v m)) ∧ Has A H v par ∧ H m = some (.dK kvs) ∧ Nmd A H kvs ms
theorem Ents.imp {A : Ads} {H H' : Hp} (s : ∀ v d, Has A H v d → Has A H' v d) (t : ∀ q xs, H q = some (.tup xs) → H' q = some (.tup xs)) : ∀ {es : List Ent} {ps : List (Dv × Dv)}, Ents A H es ps → Ents A H' es ps
  | [], [], _ => trivial
  | _ :: _, _ :: _, ⟨⟨k, e, q, v, h1, h2, h3⟩, r⟩ => ⟨⟨k, e, q, v, h1, t _ _ h2, s _ _ h3⟩, Ents.imp s t r⟩
  | [], _ :: _, h => h.elim
  | _ :: _, [], h => h.elim
theorem Nmd.imp {A : Ads} {H H' : Hp} (s : ∀ v d, Has A H v d → Has A H' v d) : ∀ {es : List (Key × V)} {ps : List (Str × Dv)}, Nmd A H es ps → Nmd A H' es ps
  | [], [], _ => trivial
  | _ :: _, _ :: _, h => ⟨⟨h.1.1, s _ _ h.1.2⟩, Nmd.imp s h.2⟩
  | [], _ :: _, h => h.elim
  | _ :: _, [], h => h.elim
/-- values and tuples stay -/
structure Vk (A : Ads) (H H' : Hp) : Prop where
  v : ∀ v d, Has A H v d → Has A H' v d
  t : ∀ q xs, H q = some (.tup xs) → H' q = some (.tup xs)
theorem Sv.vk {A : Ads} {H H' : Hp} (s : Sv H H') : Vk A H H' := ⟨fun _ _ h => h.sv s, fun q xs e => s _ _ e fun _ z => by cases z⟩
theorem Vk.trans {A : Ads} {H H1 H2 : Hp} (a : Vk A H H1) (b : Vk A H1 H2) : Vk A H H2 := ⟨fun v d h => b.v v d (a.v v d h), fun q xs h => b.t q xs (a.t q xs h)⟩
theorem Vk.rfl' {A : Ads} {H : Hp} : Vk A H H := ⟨fun _ _ h => h, fun _ _ h => h⟩
section
variable {P : Program} {w : World} {K : PySem.W.Frag} {mg : Str → Option Value} {base : Heap} {A : Ads}
theorem ThAt.imp {H H' : Hp} (k : Vk A H H') {x m : Addr} {th : Th} (hx : ∀ u, H x = some u → H' x = some u) (hm : ∀ u, H m = some u → H' m = some u) (h : ThAt P w A H x m th) : ThAt P w A H' x m th := by
  cases th with
  | parts ds =>
    obtain ⟨dx, vs, h1, h2, h3⟩ := h
    exact ⟨dx, vs, hx _ h1, hm _ h2, h3.imp k.v⟩
  | table es =>
    obtain ⟨ents, ⟨⟨dx, h1⟩, h2, h3⟩, h4, h5⟩ := h
    refine ⟨ents, ⟨⟨dx, hx _ h1⟩, ⟨hm _ h2.at_, fun e he => ⟨(h2.keys e he).1, k.t _ _ (h2.keys e he).2⟩, h2.len⟩, fun e he => ?_⟩, h4.imp k.v k.t, h5⟩
    obtain ⟨q, e1, v, e2⟩ := h3 e he
    exact ⟨q, e1, v, k.t _ _ e2⟩
  | inst o ns =>
    obtain ⟨dx, v, kvs, h1, h2, h3, h4⟩ := h
    exact ⟨dx, v, kvs, hx _ h1, k.v _ _ h2, hm _ h3, h4.imp k.v⟩
  | kin nm par ms =>
    obtain ⟨dx, v, kvs, h1, h2, h3, h4⟩ := h
    exact ⟨dx, v, kvs, hx _ h1, k.v _ _ h2, hm _ h3, h4.imp k.v⟩
def clsT (A : Ads) : Th → Addr
  | .parts _ => A.Parts
  | .table _ => A.Table
  | .inst _ _ => A.Instance
  | .kin _ _ _ => A.Kin
theorem ThAt.x {H : Hp} {x m : Addr} {th : Th} (h : ThAt P w A H x m th) : ∃ dx fs, H x = some (.ins (clsT A th) dx fs) := by
  cases th with
  | parts ds => obtain ⟨dx, vs, h1, _⟩ := h; exact ⟨_, _, h1⟩
  | table es => obtain ⟨ents, ⟨⟨dx, h1⟩, _, _⟩, _⟩ := h; exact ⟨_, _, h1⟩
  | inst o ns => obtain ⟨dx, v, kvs, h1, _⟩ := h; exact ⟨_, _, h1⟩
  | kin nm par ms => obtain ⟨dx, v, kvs, h1, _⟩ := h; exact ⟨_, _, h1⟩
theorem ThAt.m {H : Hp} {x m : Addr} {th : Th} (h : ThAt P w A H x m th) : ∃ u, H m = some u ∧ (∀ C dx fs, u ≠ .ins C dx fs) ∧ ∀ xs, u ≠ .tup xs := by
  cases th with
  | parts ds => obtain ⟨dx, vs, _, h1, _⟩ := h; exact ⟨_, h1, nofun, nofun⟩
  | table es => obtain ⟨ents, ⟨_, h2, _⟩, _⟩ := h; exact ⟨_, h2.at_, nofun, nofun⟩
  | inst o ns => obtain ⟨dx, v, kvs, _, _, h1, _⟩ := h; exact ⟨_, h1, nofun, nofun⟩
  | kin nm par ms => obtain ⟨dx, v, kvs, _, _, h1, _⟩ := h; exact ⟨_, h1, nofun, nofun⟩
theorem clsT_ne (L : Lib P K mg A) (th : Th) : clsT A th ≠ A.Ref ∧ clsT A th ≠ A.Builtin := by
  cases th with
  | parts ds => exact ⟨ne_cls L.k_Parts_Ref, ne_cls L.k_Parts_Builtin⟩
  | table es => exact ⟨ne_cls L.k_Table_Ref, ne_cls L.k_Table_Builtin⟩
  | inst o ns => exact ⟨ne_cls L.k_Instance_Ref, ne_cls L.k_Instance_Builtin⟩
  | kin nm par ms => exact ⟨ne_cls L.k_Kin_Ref, ne_cls L.k_Kin_Builtin⟩
/-! ### the store -/
structure St where
  things : List Th
  out : List Str
  lines : List Str
  taken : Nat
def stF (t o l : Addr) (n : Nat) : List (Str × V) := [("things", .ref t), ("output", .ref o), ("lines", .ref l), ("taken", .int (n : Nat))]
theorem st_things (t o l : Addr) (n : Nat) : (stF t o l n).lookup ("things" : Str) = some (.ref t) := lk_hit
theorem st_no {n : Str} (t o l : Addr) (k : Nat) (h1 : (n == ("things" : Str)) = false) (h2 : (n == ("output" : Str)) = false) (h3 : (n == ("lines" : Str)) = false) (h4 : (n == ("taken" : Str)) = false) : (stF t o l k).lookup n = none := by
  unfold stF
  rw [lk_skip h1, lk_skip h2, lk_skip h3, lk_skip h4]
  rfl
/-- the addresses of a store -/
structure Sa where
  s : Addr
  t : Addr
  o : Addr
  l : Addr
  X : List Addr
  M : List Addr
def Sa.own (a : Sa) (b : Addr) : Prop := b = a.s ∨ b = a.t ∨ b = a.o ∨ b = a.l ∨ b ∈ a.X ∨ b ∈ a.M
structure SM (P : Program) (w : World) (A : Ads) (H : Hp) (a : Sa) (S : St) : Prop where
  s_ : ∃ dx, H a.s = some (.ins A.Store dx (stF a.t a.o a.l S.taken))
  t_ : H a.t = some (.lst (a.X.map V.ref))
  o_ : H a.o = some (.lst (S.out.map V.str))
  l_ : H a.l = some (.lst (S.lines.map V.str))
  lx : a.X.length = S.things.length
  lm : a.M.length = S.things.length
  th : ∀ (i : Nat) x m d, a.X[i]? = some x → a.M[i]? = some m → S.things[i]? = some d → ThAt P w A H x m d
  nd : (a.t :: a.o :: a.l :: a.M).Nodup
  nx : a.X.Nodup
theorem SM.get {H : Hp} {a : Sa} {S : St} (h : SM P w A H a S) {i : Nat} {d : Th} (e : S.things[i]? = some d) : ∃ x m, a.X[i]? = some x ∧ a.M[i]? = some m ∧ ThAt P w A H x m d := by
  have hi := (List.getElem?_eq_some_iff.mp e).1
  have h1 : i < a.X.length := by rw [h.lx]; exact hi
  have h2 : i < a.M.length := by rw [h.lm]; exact hi
  exact ⟨a.X[i], a.M[i], List.getElem?_eq_getElem h1, List.getElem?_eq_getElem h2, h.th i _ _ d (List.getElem?_eq_getElem h1) (List.getElem?_eq_getElem h2) e⟩
theorem SM.xs {H : Hp} {a : Sa} {S : St} (h : SM P w A H a S) {x : Addr} (e : x ∈ a.X) : ∃ th m, ThAt P w A H x m th := by
  obtain ⟨i, hi, e⟩ := List.getElem_of_mem e
  have h1 : i < S.things.length := by rw [← h.lx]; exact hi
  obtain ⟨x', m, e1, e2, t⟩ := h.get (List.getElem?_eq_getElem h1)
  rw [List.getElem?_eq_getElem hi] at e1
  cases e1
  rw [e] at t
  exact ⟨_, m, t⟩
theorem SM.ms {H : Hp} {a : Sa} {S : St} (h : SM P w A H a S) {m : Addr} (e : m ∈ a.M) : ∃ th x, ThAt P w A H x m th := by
  obtain ⟨i, hi, e⟩ := List.getElem_of_mem e
  have h1 : i < S.things.length := by rw [← h.lm]; exact hi
  obtain ⟨x, m', e1, e2, t⟩ := h.get (List.getElem?_eq_getElem h1)
  rw [List.getElem?_eq_getElem hi] at e2
  cases e2
  rw [e] at t
  exact ⟨_, x, t⟩
/-- no value is the store's own -/
theorem SM.nv {H : Hp} {a : Sa} {S : St} (L : Lib P K mg A) (h : SM P w A H a S) {b : Addr} (hb : a.own b) : ∃ u, H b = some u ∧ (∀ dx fs, u ≠ .ins A.Ref dx fs) ∧ (∀ dx fs, u ≠ .ins A.Builtin dx fs) ∧ ∀ xs, u ≠ .tup xs := by
  rcases hb with rfl | rfl | rfl | rfl | hb | hb
  · obtain ⟨dx, e⟩ := h.s_
    refine ⟨_, e, fun _ _ z => ?_, fun _ _ z => ?_, nofun⟩
    · injection z with z; exact ne_cls L.k_Store_Ref z
    · injection z with z; exact ne_cls L.k_Store_Builtin z
  · exact ⟨_, h.t_, nofun, nofun, nofun⟩
  · exact ⟨_, h.o_, nofun, nofun, nofun⟩
  · exact ⟨_, h.l_, nofun, nofun, nofun⟩
  · obtain ⟨th, m, t⟩ := h.xs hb
    obtain ⟨dx, fs, e⟩ := t.x
    refine ⟨_, e, fun _ _ z => ?_, fun _ _ z => ?_, nofun⟩
    · injection z with z; exact (clsT_ne L th).1 z
    · injection z with z; exact (clsT_ne L th).2 z
  · obtain ⟨th, x, t⟩ := h.ms hb
    obtain ⟨u, e, h1, h2⟩ := t.m
    exact ⟨u, e, fun _ _ => h1 _ _ _, fun _ _ => h1 _ _ _, h2⟩
/-- what is not the store's own stays -/
def Fr (a : Sa) (H H' : Hp) : Prop := ∀ b u, H b = some u → ¬ a.own b → H' b = some u
theorem Fr.vk {H H' : Hp} {a : Sa} {S : St} (L : Lib P K mg A) (h : SM P w A H a S) (f : Fr a H H') : Vk A H H' := by
  have no : ∀ b, (∃ dx fs, H b = some (.ins A.Ref dx fs)) ∨ (∃ dx fs, H b = some (.ins A.Builtin dx fs)) ∨ (∃ xs, H b = some (.tup xs)) → ¬ a.own b := fun b e ho => by
    obtain ⟨u, e1, n1, n2, n3⟩ := h.nv L ho
    rcases e with ⟨dx, fs, e⟩ | ⟨dx, fs, e⟩ | ⟨xs, e⟩
    · exact n1 _ _ (Option.some.inj (e1.symm.trans e))
    · exact n2 _ _ (Option.some.inj (e1.symm.trans e))
    · exact n3 _ (Option.some.inj (e1.symm.trans e))
  refine ⟨fun v d hv => ?_, fun q xs e => f _ _ e (no _ (.inr (.inr ⟨_, e⟩)))⟩
  cases d with
  | obj n =>
    obtain ⟨b, dx, rfl, e⟩ := hv
    exact ⟨b, dx, rfl, f _ _ e (no _ (.inl ⟨_, _, e⟩))⟩
  | bi x =>
    obtain ⟨b, dx, rfl, e⟩ := hv
    exact ⟨b, dx, rfl, f _ _ e (no _ (.inr (.inl ⟨_, _, e⟩)))⟩
  | _ => exact hv
theorem SM.imp {H H' : Hp} {a : Sa} {S : St} (h : SM P w A H a S) (k : Vk A H H') (ho : ∀ b u, a.own b → H b = some u → H' b = some u) : SM P w A H' a S := by
  obtain ⟨dx, e⟩ := h.s_
  exact ⟨⟨dx, ho _ _ (.inl rfl) e⟩, ho _ _ (.inr (.inl rfl)) h.t_, ho _ _ (.inr (.inr (.inl rfl))) h.o_, ho _ _ (.inr (.inr (.inr (.inl rfl)))) h.l_, h.lx, h.lm,
    fun i x m d e1 e2 e3 => (h.th i x m d e1 e2 e3).imp k (fun u => ho _ u (.inr (.inr (.inr (.inr (.inl (List.mem_of_getElem? e1))))))) (fun u => ho _ u (.inr (.inr (.inr (.inr (.inr (List.mem_of_getElem? e2))))))), h.nd, h.nx⟩
theorem SM.same {H H' : Hp} {a : Sa} {S : St} (h : SM P w A H a S) (s : Same H H') : SM P w A H' a S := h.imp (Same.sv s).vk fun b u _ e => s b u e
theorem SM.keep {H H' : Hp} {a : Sa} {S : St} {p : Addr} {xs : List V} (h : SM P w A H a S) (k : Keep p H H') (hp : H p = some (.lst xs)) (np : ¬ a.own p) : SM P w A H' a S := h.imp (Keep.sv k hp).vk fun b u ho e => k b u e fun z => np (z ▸ ho)
theorem nodup_get {α : Type} : ∀ {l : List α} {i j : Nat} {x : α}, l.Nodup → l[i]? = some x → l[j]? = some x → i = j
  | [], _, _, _, _, h, _ => by simp at h
  | a :: l, 0, 0, _, _, _, _ => rfl
  | a :: l, 0, j + 1, x, n, h, g => by
    simp at h g
    subst h
    exact absurd (List.mem_of_getElem? g) (List.nodup_cons.mp n).1
  | a :: l, i + 1, 0, x, n, h, g => by
    simp at h g
    subst g
    exact absurd (List.mem_of_getElem? h) (List.nodup_cons.mp n).1
  | a :: l, i + 1, j + 1, x, n, h, g => by
    simp at h g
    rw [nodup_get (List.nodup_cons.mp n).2 h g]
/-- the part m of a thing is written -/
theorem SM.setM {H : Hp} {a : Sa} {S : St} {i : Nat} {x m : Addr} {u : HO} {d : Th} (h : SM P w A H a S) (hX : a.X[i]? = some x) (hM : a.M[i]? = some m) (k : Vk A H (upd H m u)) (hd : ThAt P w A (upd H m u) x m d) :
    SM P w A (upd H m u) a { S with things := S.things.set i d } := by
  have mm := List.mem_of_getElem? hM
  have hm3 : m ≠ a.t ∧ m ≠ a.o ∧ m ≠ a.l := by
    have := h.nd
    simp only [List.nodup_cons, List.mem_cons, not_or] at this
    exact ⟨fun z => this.1.2.2 (z ▸ mm), fun z => this.2.1.2 (z ▸ mm), fun z => this.2.2.1 (z ▸ mm)⟩
  have hMn : a.M.Nodup := by
    have := h.nd
    simp only [List.nodup_cons] at this
    exact this.2.2.2
  obtain ⟨tm, xm, hmt⟩ := h.ms mm
  obtain ⟨um, hum, hni, _⟩ := hmt.m
  have nins : ∀ {b : Addr} {C dx : Addr} {fs : List (Str × V)}, H b = some (.ins C dx fs) → b ≠ m := fun e z => by
    rw [z, hum] at e
    exact hni _ _ _ (Option.some.inj e)
  obtain ⟨dx, e⟩ := h.s_
  refine ⟨⟨dx, by rw [upd_ne (nins e)]; exact e⟩, by rw [upd_ne hm3.1.symm]; exact h.t_, by rw [upd_ne hm3.2.1.symm]; exact h.o_, by rw [upd_ne hm3.2.2.symm]; exact h.l_, by rw [List.length_set]; exact h.lx, by rw [List.length_set]; exact h.lm, ?_, h.nd, h.nx⟩
  intro j x' m' d' e1 e2 e3
  by_cases hij : i = j
  · subst hij
    rw [hX] at e1
    rw [hM] at e2
    cases e1
    cases e2
    rw [List.getElem?_set] at e3
    split at e3
    · split at e3
      · cases e3; exact hd
      · cases e3
    · rename_i z; exact absurd rfl z
  · rw [List.getElem?_set_ne hij] at e3
    have t := h.th j x' m' d' e1 e2 e3
    refine t.imp k (fun u' e => ?_) (fun u' e => ?_)
    · obtain ⟨dx', fs', ex⟩ := t.x
      rw [upd_ne (nins ex)]
      exact e
    · have hne : m' ≠ m := fun z => by
        rw [z] at e2
        exact hij (nodup_get hMn hM e2)
      rw [upd_ne hne]
      exact e
/-- a thing more -/
theorem SM.push {H : Hp} {a : Sa} {S : St} {x m : Addr} {d : Th} (h : SM P w A H a S) (hd : ThAt P w A H x m d) (nx : x ∉ a.X) (nm : m ∉ a.t :: a.o :: a.l :: a.M) :
    SM P w A (upd H a.t (.lst ((a.X ++ [x]).map V.ref))) { a with X := a.X ++ [x], M := a.M ++ [m] } { S with things := S.things ++ [d] } := by
  have sv : Sv H (upd H a.t (.lst ((a.X ++ [x]).map V.ref))) := fun b u e n => by
    rw [upd_ne fun z => by rw [z, h.t_] at e; exact n _ (Option.some.inj e).symm]
    exact e
  have n3 := h.nd
  simp only [List.nodup_cons, List.mem_cons, not_or] at n3
  simp only [List.mem_cons, not_or] at nm
  have hnt : ∀ {b : Addr} {C dx : Addr} {fs : List (Str × V)}, H b = some (.ins C dx fs) → b ≠ a.t := fun e z => by
    rw [z, h.t_] at e
    cases e
  obtain ⟨dx, e⟩ := h.s_
  refine ⟨⟨dx, by rw [upd_ne (hnt e)]; exact e⟩, upd_same, by rw [upd_ne (fun z => n3.1.1 z.symm)]; exact h.o_, by rw [upd_ne (fun z => n3.1.2.1 z.symm)]; exact h.l_, by simp [h.lx], by simp [h.lm], ?_, ?_, ?_⟩
  · intro i x' m' d' e1 e2 e3
    have up : ∀ {x m : Addr} {d : Th}, ThAt P w A H x m d → m ≠ a.t → ThAt P w A (upd H a.t (.lst ((a.X ++ [x]).map V.ref))) x m d → True := fun _ _ _ => trivial
    have go : ∀ {y n : Addr} {g : Th}, ThAt P w A H y n g → n ≠ a.t → ThAt P w A (upd H a.t (.lst ((a.X ++ [x]).map V.ref))) y n g := fun {y n g} t hn => by
      obtain ⟨dy, fs, ey⟩ := t.x
      exact t.imp sv.vk (fun u e => by rw [upd_ne (hnt ey)]; exact e) (fun u e => by rw [upd_ne hn]; exact e)
    by_cases hi : i < S.things.length
    · have e1' : a.X[i]? = some x' := by
        have e1 : (a.X ++ [x])[i]? = some x' := e1
        rw [List.getElem?_append_left (by rw [h.lx]; exact hi)] at e1
        exact e1
      have e2' : a.M[i]? = some m' := by
        have e2 : (a.M ++ [m])[i]? = some m' := e2
        rw [List.getElem?_append_left (by rw [h.lm]; exact hi)] at e2
        exact e2
      have e3' : S.things[i]? = some d' := by
        have e3 : (S.things ++ [d])[i]? = some d' := e3
        rw [List.getElem?_append_left hi] at e3
        exact e3
      exact go (h.th i x' m' d' e1' e2' e3') fun z => n3.1.2.2 (z ▸ List.mem_of_getElem? e2')
    · have hl := (List.getElem?_eq_some_iff.mp e3).1
      rw [List.length_append, List.length_singleton] at hl
      have hi' : i = S.things.length := by omega
      subst hi'
      have e1 : (a.X ++ [x])[S.things.length]? = some x' := e1
      have e2 : (a.M ++ [m])[S.things.length]? = some m' := e2
      have e3 : (S.things ++ [d])[S.things.length]? = some d' := e3
      rw [← h.lx, List.getElem?_append_right (Nat.le_refl _), Nat.sub_self] at e1
      rw [← h.lm, List.getElem?_append_right (Nat.le_refl _), Nat.sub_self] at e2
      rw [List.getElem?_append_right (Nat.le_refl _), Nat.sub_self] at e3
      cases e1
      cases e2
      cases e3
      exact go hd nm.1
  · have : (a.t :: a.o :: a.l :: a.M ++ [m]).Nodup := by
      rw [List.nodup_append]
      refine ⟨h.nd, by simp, fun y hy z hz => ?_⟩
      rw [List.mem_singleton] at hz
      subst hz
      intro q
      subst q
      simp only [List.mem_cons] at hy
      rcases hy with q | q | q | q
      · exact nm.1 q
      · exact nm.2.1 q
      · exact nm.2.2.1 q
      · exact nm.2.2.2 q
    exact this
  · show (a.X ++ [x]).Nodup
    rw [List.nodup_append]
    refine ⟨h.nx, by simp, fun y hy z hz => ?_⟩
    rw [List.mem_singleton] at hz
    subst hz
    exact fun q => nx (q ▸ hy)
end
end My
namespace My
open PySem L2 SX XT XS XE
open C8 (pss_cut tCut cutS_slice pe_gc)
section
variable {P : Program} {w : World} {K : PySem.W.Frag} {mg : Str → Option Value} {base : Heap} {A : Ads}
/-! ### the classes' __init__ -/
def spHI (C : Addr) (n : Str) (K : PySem.W.Frag) : Sp := fun vs H Q _ => ∃ x dx l xs, vs = [.ref x, .ref l] ∧ H x = some (.ins C dx []) ∧ SqL K H l xs ∧ ∀ H' m, Keep x H H' → H' x = some (.ins C dx [(n, .ref m)]) → H m = none → H' m = some (.lst xs) → Q .non H'
theorem ok_Parts_init (L : Lib P K mg A) : FnOk P w K mg base CX0 1 L.Parts_init.f L.Parts_init.fd ["self", "held"] (spHI A.Parts "held" K) := by
  refine L.Parts_init.F.ok sc_Parts_init (fun vs H Q E h => ?_) (fun cdv A' outer s H vs Q E hr h => ?_)
  · obtain ⟨x, dx, l, xs, rfl, _⟩ := h
    rfl
  · obtain ⟨x, dx, l, xs, rfl, hx, hl, q⟩ := h
    refine ⟨_, (pss_one (ps_fld (pv 0) (pe_callTy call_list_of (by rfl) L.z_list (by decide +kernel) (pa_cons (pv 1) pa_nil)) rfl)), ?_⟩
    refine ⟨_, rfl, l, xs, rfl, .inl hl, fun m hm => ⟨_, rfl, x, A.Parts, dx, [], rfl, (by rw [upd_ne (ne_of_none hx hm)]; exact hx), L.c_Parts.cl, L.n_Parts_held, (by show 0 < 1000; decide), ?_⟩⟩
    have nmx : m ≠ x := (ne_of_none hx hm).symm
    exact q _ m (fun b o e n => by rw [upd_ne n, upd_ne (ne_of_none e hm)]; exact e) upd_same hm (by rw [upd_ne nmx]; exact upd_same)
def spKI (A : Ads) : Sp := fun vs H Q _ => ∃ x dx v1 v2, vs = [.ref x, v1, v2] ∧ H x = some (.ins A.Kin dx []) ∧ ∀ H' m, Keep x H H' → H' x = some (.ins A.Kin dx [("name", v1), ("parent", v2), ("methods", .ref m)]) → H m = none → H' m = some (.dK []) → Q .non H'
theorem ok_Kin_init (L : Lib P K mg A) : FnOk P w K mg base CX0 1 L.Kin_init.f L.Kin_init.fd ["self", "name", "parent"] (spKI A) := by
  refine L.Kin_init.F.ok sc_Kin_init (fun vs H Q E h => ?_) (fun cdv A' outer s H vs Q E hr h => ?_)
  · obtain ⟨x, dx, v1, v2, rfl, _⟩ := h
    rfl
  · obtain ⟨x, dx, v1, v2, rfl, hx, q⟩ := h
    refine ⟨_, (pss_cons (ps_fld (pv 0) (pv 1) rfl)
      (pss_cons (ps_fld (pv 0) (pv 2) rfl)
      (pss_one (ps_fld (pv 0) pe_dnewK rfl)))), ?_⟩
    refine ⟨_, rfl, _, rfl, x, A.Kin, dx, _, rfl, hx, L.c_Kin.cl, L.n_Kin_name, (by show 0 < 1000; decide), ?_⟩
    refine ⟨_, rfl, _, rfl, x, A.Kin, dx, _, rfl, upd_same, L.c_Kin.cl, L.n_Kin_parent, (by show 1 < 1000; decide), ?_⟩
    refine fun m hm => ?_
    have nmx : x ≠ m := ne_of_none upd_same hm
    refine ⟨_, rfl, x, A.Kin, dx, _, rfl, (by rw [upd_ne nmx]; exact upd_same), L.c_Kin.cl, L.n_Kin_methods, (by show 2 < 1000; decide), ?_⟩
    refine q _ m (fun b o e n => by rw [upd_ne n, upd_ne (ne_of_none (H := upd (upd H x _) x _) (by rw [upd_ne n, upd_ne n]; exact e) hm), upd_ne n, upd_ne n]; exact e) upd_same ?_ (by rw [upd_ne nmx.symm]; exact upd_same)
    rw [upd_ne nmx.symm, upd_ne nmx.symm] at hm
    exact hm
/-- a new part is made and a field of the object at a is set -/
structure Two (H H2 : Hp) (t a : Addr) (U I : HO) : Prop where
  kk : ∀ b u, H b = some u → b ≠ a → H2 b = some u
  tt : H2 t = some U
  aa : H2 a = some I
  nn : ∀ b, H2 b = none → H b = none
  na : t ≠ a
  nt : H t = none
theorem two {H : Hp} {t a : Addr} {U I I0 : HO} (nt : H t = none) (ha : H a = some I0) : Two H (upd (upd H t U) a I) t a U I := by
  have nta : t ≠ a := (ne_of_none ha nt).symm
  refine ⟨fun b u e n => by rw [upd_ne n, upd_ne (ne_of_none e nt)]; exact e, by rw [upd_ne nta]; exact upd_same, upd_same, fun b e => ?_, nta, nt⟩
  by_cases h1 : b = a
  · rw [h1, upd_same] at e; cases e
  · rw [upd_ne h1] at e
    by_cases h2 : b = t
    · rw [h2, upd_same] at e; cases e
    · rw [upd_ne h2] at e; exact e
def stO (ls : List Str) : St := ⟨[.kin "Error" .non []], [], ls, 0⟩
def spSI (P : Program) (w : World) (K : PySem.W.Frag) (A : Ads) : Sp := fun vs H Q _ => ∃ a dx l ls, vs = [.ref a, .ref l] ∧ H a = some (.ins A.Store dx []) ∧ SqL K H l (ls.map V.str) ∧ l ≠ a ∧ ∀ H' (sa : Sa), sa.s = a → Keep a H H' → SM P w A H' sa (stO ls) → (∀ b, sa.own b → b = a ∨ H b = none) → Q .non H'
theorem ok_Store_init (L : Lib P K mg A) : FnOk P w K mg base CX0 3 L.Store_init.f L.Store_init.fd ["self", "lines"] (spSI P w K A) := by
  have G_Kin_init : FnOk P w K mg base CX0 1 L.Kin_init.f L.Kin_init.fd ["self", "name", "parent"] (spKI A) := ok_Kin_init L
  refine L.Store_init.F.ok sc_Store_init (fun vs H Q E h => ?_) (fun cdv A' outer s H vs Q E hr h => ?_)
  · obtain ⟨a, dx, l, ls, rfl, _⟩ := h
    rfl
  · obtain ⟨a, dx, l, ls, rfl, ha, hl, hla, q⟩ := h
    refine ⟨_, (pss_cons (ps_fld (pv 0) (pe_lst (pa_cons (pe_make L.Kin_init.m G_Kin_init (hr.mono (by omega)) (by rfl) L.c_Kin.g L.Kin_init.b .nil pass0 (pa_cons pe_str (pa_cons pe_non pa_nil))) pa_nil)) rfl)
      (pss_cons (ps_fld (pv 0) (pe_lst pa_nil) rfl)
      (pss_cons (ps_fld (pv 0) (pe_callTy call_list_of (by rfl) L.z_list (by decide +kernel) (pa_cons (pv 1) pa_nil)) rfl)
      (pss_one (ps_fld (pv 0) pe_int rfl))))), ?_⟩
    intro y dy ny ndy nyd
    refine ⟨y, dy, _, _, rfl, upd_same, fun H1 m k1 hy nm hm => ⟨rfl, ?_⟩⟩
    have s1 : Same H H1 := Same.made ny ndy k1
    have ha1 := s1 _ _ ha
    have nya : y ≠ a := fun z => by rw [z, ha] at ny; cases ny
    have nm0 : H m = none := by
      by_cases h1 : m = y
      · rw [h1]; exact ny
      · by_cases h2 : m = dy
        · rw [h2]; exact ndy
        · rw [upd_ne h1, upd_ne h2] at nm; exact nm
    have nma : m ≠ a := fun z => by rw [z, ha] at nm0; cases nm0
    refine ⟨(by show 1 ≤ sizeLine; decide), fun t nt => ?_⟩
    refine ⟨_, rfl, a, A.Store, dx, [], rfl, (by rw [upd_ne (ne_of_none ha1 nt)]; exact ha1), L.c_Store.cl, L.n_Store_things, (by show 0 < 1000; decide), ?_⟩
    have T1 := two (U := .lst [.ref y]) (I := .ins A.Store dx (putF "things" (V.ref t) [])) nt ha1
    generalize upd (upd H1 t (.lst [V.ref y])) a (.ins A.Store dx (putF "things" (V.ref t) [])) = H2 at T1 ⊢
    refine ⟨Nat.zero_le _, fun o no => ?_⟩
    refine ⟨_, rfl, a, A.Store, dx, _, rfl, (by rw [upd_ne (ne_of_none T1.aa no)]; exact T1.aa), L.c_Store.cl, L.n_Store_output, (by show 1 < 1000; decide), ?_⟩
    have T2 := two (U := .lst []) (I := .ins A.Store dx (putF "output" (V.ref o) (putF "things" (V.ref t) []))) no T1.aa
    generalize upd (upd H2 o (.lst [])) a (.ins A.Store dx (putF "output" (V.ref o) (putF "things" (V.ref t) []))) = H3 at T2 ⊢
    have k13 : ∀ b u, H b = some u → b ≠ a → H3 b = some u := fun b u e n => T2.kk _ _ (T1.kk _ _ (s1 _ _ e) n) n
    have hl3 : SqL K H3 l (ls.map V.str) := by
      rcases hl with (hl | ⟨ob, hl⟩) | hl
      · exact .inl (.inl (k13 _ _ hl hla))
      · exact .inl (.inr ⟨ob, k13 _ _ hl hla⟩)
      · exact .inr hl
    refine ⟨_, rfl, l, _, rfl, .inl hl3, fun lm nlm => ?_⟩
    refine ⟨_, rfl, a, A.Store, dx, _, rfl, (by rw [upd_ne (ne_of_none T2.aa nlm)]; exact T2.aa), L.c_Store.cl, L.n_Store_lines, (by show 2 < 1000; decide), ?_⟩
    refine ⟨_, rfl, a, A.Store, dx, _, rfl, upd_same, L.c_Store.cl, L.n_Store_taken, (by show 3 < 1000; decide), ?_⟩
    have T3 := two (U := .lst (ls.map V.str)) (I := .ins A.Store dx (putF "lines" (V.ref lm) (putF "output" (V.ref o) (putF "things" (V.ref t) [])))) nlm T2.aa
    generalize upd (upd H3 lm (.lst (ls.map V.str))) a (.ins A.Store dx (putF "lines" (V.ref lm) (putF "output" (V.ref o) (putF "things" (V.ref t) [])))) = H4 at T3 ⊢
    have kF : ∀ {b : Addr} {u : HO}, H4 b = some u → b ≠ a → upd H4 a (.ins A.Store dx (putF "taken" (V.int 0) (putF "lines" (V.ref lm) (putF "output" (V.ref o) (putF "things" (V.ref t) []))))) b = some u := fun e n => by rw [upd_ne n]; exact e
    have ht4 := T3.kk _ _ (T2.kk _ _ T1.tt T1.na) T1.na
    have ho4 := T3.kk _ _ T2.tt T2.na
    have hy4 := T3.kk _ _ (T2.kk _ _ (T1.kk _ _ hy nya) nya) nya
    have hm4 := T3.kk _ _ (T2.kk _ _ (T1.kk _ _ hm nma) nma) nma
    refine q _ ⟨a, t, o, lm, [y], [m]⟩ rfl (fun b u e n => kF (T3.kk _ _ (k13 _ _ e n) n) n) ⟨⟨dx, upd_same⟩, kF ht4 T1.na, kF ho4 T2.na, kF T3.tt T3.na, rfl, rfl, ?_, ?_, by simp⟩ ?_
    · intro i x' m' d' e1 e2 e3
      match i, e1, e2, e3 with
      | 0, e1, e2, e3 =>
        cases e1
        cases e2
        cases e3
        exact ⟨_, .non, [], kF hy4 nya, rfl, kF hm4 nma, trivial⟩
      | i + 1, e1, e2, e3 => simp at e1
    · have hm1 := hm
      have n1 : t ≠ m := (ne_of_none hm1 nt).symm
      have n2 : t ≠ o := ne_of_none T1.tt no
      have n3 : t ≠ lm := ne_of_none (T2.kk _ _ T1.tt T1.na) nlm
      have n4 : o ≠ m := (ne_of_none (T1.kk _ _ hm1 nma) no).symm
      have n5 : o ≠ lm := ne_of_none T2.tt nlm
      have n6 : lm ≠ m := (ne_of_none (T2.kk _ _ (T1.kk _ _ hm1 nma) nma) nlm).symm
      simp [n1, n2, n3, n4, n5, n6]
    · intro b hb
      rcases hb with rfl | rfl | rfl | rfl | hb | hb
      · exact .inl rfl
      · exact .inr (s1.free nt)
      · exact .inr (s1.free (T1.nn _ no))
      · exact .inr (s1.free (T1.nn _ (T2.nn _ nlm)))
      · rw [List.mem_singleton] at hb
        subst hb
        exact .inr ny
      · rw [List.mem_singleton] at hb
        subst hb
        exact .inr nm0
/-! ### make, at -/
def spMake (P : Program) (w : World) (A : Ads) : Sp := fun vs H Q _ => ∃ (a : Sa) (S : St) (x m : Addr) (d : Th), vs = [.ref a.s, .ref x] ∧ SM P w A H a S ∧ ThAt P w A H x m d ∧ x ∉ a.X ∧ m ∉ a.t :: a.o :: a.l :: a.M ∧ S.things.length < 100000 ∧
  ∀ H' r, Keep a.t H H' → SM P w A H' { a with X := a.X ++ [x], M := a.M ++ [m] } { S with things := S.things ++ [d] } → H r = none → Has A H' (.ref r) (.obj S.things.length) → Q (.ref r) H'
theorem ok_Store_make (L : Lib P K mg A) : FnOk P w K mg base CX0 3 L.Store_make.f L.Store_make.fd ["self", "thing"] (spMake P w A) := by
  have G_Ref_init : FnOk P w K mg base CX0 1 L.Ref_init.f L.Ref_init.fd ["self", "number"] (spI1 A.Ref "number") := ok_Ref_init L
  refine L.Store_make.F.ok sc_Store_make (fun vs H Q E h => ?_) (fun cdv A' outer s H vs Q E hr h => ?_)
  · obtain ⟨a, S, x, m, d, rfl, _⟩ := h
    rfl
  · obtain ⟨a, S, x, m, d, rfl, hS, hd, nx, nm, hl, q⟩ := h
    refine ⟨_, (pss_cons (ps_expr (pe_bm PySem.F.plainAttrs_list PySem.F.slot_list_append PySem.F.type_list_append mt_append (pe_fld (pv 0) rfl) (pa_cons (pv 1) pa_nil)))
      (pss_one (ps_ret (pe_make L.Ref_init.m G_Ref_init (hr.mono (by omega)) (by rfl) L.c_Ref.g L.Ref_init.b .nil pass0 (pa_cons (pe_op op_sub (pe_callB call_len_seq (by rfl) L.z_len PySem.boot_len (pa_cons (pe_fld (pv 0) rfl) pa_nil)) pe_int) pa_nil))))), ?_⟩
    obtain ⟨dx, h1⟩ := hS.s_
    have hlx := hS.lx
    have nst : a.s ≠ a.t := fun z => by rw [z, hS.t_] at h1; cases h1
    refine ⟨_, rfl, a.s, A.Store, dx, _, _, rfl, h1, L.c_Store.cl, L.n_Store_things, st_things _ _ _ _, .inl ⟨rfl, _, SqL.of hS.t_⟩, _, rfl, a.t, _, _, rfl, rfl, hS.t_, Nat.lt_of_le_of_lt (m := 100000) (by rw [List.length_map]; omega) (by decide), ?_⟩
    have e : a.X.map V.ref ++ [V.ref x] = (a.X ++ [x]).map V.ref := by rw [List.map_append]; rfl
    rw [e]
    have P1 := hS.push hd nx nm
    have K1 : Keep a.t H (upd H a.t (.lst ((a.X ++ [x]).map V.ref))) := keep_upd
    refine ⟨_, rfl, a.s, A.Store, dx, _, _, rfl, K1 _ _ h1 nst, L.c_Store.cl, L.n_Store_things, st_things _ _ _ _, a.t, _, rfl, .inl (SqL.of upd_same), _, _, rfl, rfl, ?_⟩
    intro r dr nr ndr ndrr
    refine ⟨r, dr, _, rfl, upd_same, fun H1 k1 hR1 => ⟨rfl, ?_⟩⟩
    have s1 := Same.made nr ndr k1
    have nrt : r ≠ a.t := fun z => by rw [z, upd_same] at nr; cases nr
    refine q _ r (fun b ob e n => s1 _ _ (K1 _ _ e n)) (P1.same s1) (by rw [upd_ne nrt] at nr; exact nr) ⟨r, dr, rfl, ?_⟩
    have : ((((a.X ++ [x]).map V.ref).length : Nat) : Int) - 1 = (S.things.length : Nat) := by
      rw [List.length_map, List.length_append, List.length_singleton]
      omega
    show H1 r = some (.ins A.Ref dr [("number", .int (S.things.length : Nat))])
    rw [← this]
    exact hR1
def spAt (P : Program) (w : World) (A : Ads) : Sp := fun vs H Q _ => ∃ (a : Sa) (S : St) (r x : Addr) (i : Nat), vs = [.ref a.s, .ref r] ∧ SM P w A H a S ∧ Has A H (.ref r) (.obj i) ∧ a.X[i]? = some x ∧ Q (.ref x) H
theorem ok_Store_at (L : Lib P K mg A) : FnOk P w K mg base CX0 1 L.Store_at.f L.Store_at.fd ["self", "ref"] (spAt P w A) := by
  refine L.Store_at.F.ok sc_Store_at (fun vs H Q E h => ?_) (fun cdv A' outer s H vs Q E hr h => ?_)
  · obtain ⟨a, S, r, x, i, rfl, _⟩ := h
    rfl
  · obtain ⟨a, S, r, x, i, rfl, hS, ⟨b, dr, e, hR⟩, hi, q⟩ := h
    cases e
    refine ⟨_, (pss_one (ps_ret (pe_ix ix_list (pe_fld (pv 0) rfl) (pe_fld (pv 1) rfl) (fun _ _ => rfl)))), ?_⟩
    obtain ⟨dx, h1⟩ := hS.s_
    exact ⟨_, rfl, a.s, A.Store, dx, _, _, rfl, h1, L.c_Store.cl, L.n_Store_things, st_things _ _ _ _, _, rfl, r, A.Ref, dr, _, _, rfl, hR, L.c_Ref.cl, L.n_Ref_number, lk_hit, a.t, _, _, .ref x, rfl, rfl, SqL.of hS.t_, atI_nat (by rw [List.getElem?_map, hi]; rfl), q⟩
/-! ### kinds -/
def tP : Th → Bool
  | .parts _ => true
  | _ => false
def tT : Th → Bool
  | .table _ => true
  | _ => false
def tI : Th → Bool
  | .inst _ _ => true
  | _ => false
def tK : Th → Bool
  | .kin _ _ _ => true
  | _ => false
theorem kit_P (L : Lib P K mg A) (d : Th) : PySem.W.kitOne K (.ref (clsT A d)) (.ref A.Parts) = some (tP d) := by
  cases d with
  | parts ds => exact kit_self _
  | table es => exact L.k_Table_Parts
  | inst o ns => exact L.k_Instance_Parts
  | kin nm par ms => exact L.k_Kin_Parts
theorem kit_T (L : Lib P K mg A) (d : Th) : PySem.W.kitOne K (.ref (clsT A d)) (.ref A.Table) = some (tT d) := by
  cases d with
  | parts ds => exact L.k_Parts_Table
  | table es => exact kit_self _
  | inst o ns => exact L.k_Instance_Table
  | kin nm par ms => exact L.k_Kin_Table
theorem kit_I (L : Lib P K mg A) (d : Th) : PySem.W.kitOne K (.ref (clsT A d)) (.ref A.Instance) = some (tI d) := by
  cases d with
  | parts ds => exact L.k_Parts_Instance
  | table es => exact L.k_Table_Instance
  | inst o ns => exact kit_self _
  | kin nm par ms => exact L.k_Kin_Instance
theorem kit_K (L : Lib P K mg A) (d : Th) : PySem.W.kitOne K (.ref (clsT A d)) (.ref A.Kin) = some (tK d) := by
  cases d with
  | parts ds => exact L.k_Parts_Kin
  | table es => exact L.k_Table_Kin
  | inst o ns => exact L.k_Instance_Kin
  | kin nm par ms => exact kit_self _
theorem th_ty (L : Lib P K mg A) {H : Hp} {x m : Addr} {d : Th} (h : ThAt P w A H x m d) : TyX K H (.ref x) (.ref (clsT A d)) := by
  obtain ⟨dx, fs, e⟩ := h.x
  cases d with
  | parts ds => exact L.c_Parts.ty e
  | table es => exact L.c_Table.ty e
  | inst o ns => exact L.c_Instance.ty e
  | kin nm par ms => exact L.c_Kin.ty e
def kindT : Th → Str
  | .parts _ => "list"
  | .table _ => "map"
  | .inst _ _ => "instance"
  | .kin _ _ _ => "class"
def spKT (P : Program) (w : World) (A : Ads) : Sp := fun vs H Q _ => ∃ x m d, vs = [.ref x] ∧ ThAt P w A H x m d ∧ Q (.str (kindT d)) H
theorem ok_kind_of_thing (L : Lib P K mg A) : FnOk P w K mg base CX0 1 L.kind_of_thing.f L.kind_of_thing.fd ["thing"] (spKT P w A) := by
  refine L.kind_of_thing.F.ok sc_kind_of_thing (fun vs H Q E h => ?_) (fun cdv A' outer s H vs Q E hr h => ?_)
  · obtain ⟨x, m, d, rfl, _⟩ := h
    rfl
  · obtain ⟨x, m, d, rfl, hd, q⟩ := h
    refine ⟨_, (pss_cons (ps_if (pt_val (pe_callB call_isi (by rfl) L.z_isinstance (by decide +kernel) (pa_cons (pv 0) (pa_cons (pe_gc (v := .ref A.Parts) (by rfl) ⟨_, L.c_Parts.g, rfl⟩) pa_nil))))
        (pss_one (ps_ret pe_str))
        pss_nil)
      (pss_cons (ps_if (pt_val (pe_callB call_isi (by rfl) L.z_isinstance (by decide +kernel) (pa_cons (pv 0) (pa_cons (pe_gc (v := .ref A.Table) (by rfl) ⟨_, L.c_Table.g, rfl⟩) pa_nil))))
        (pss_one (ps_ret pe_str))
        pss_nil)
      (pss_cons (ps_if (pt_val (pe_callB call_isi (by rfl) L.z_isinstance (by decide +kernel) (pa_cons (pv 0) (pa_cons (pe_gc (v := .ref A.Instance) (by rfl) ⟨_, L.c_Instance.g, rfl⟩) pa_nil))))
        (pss_one (ps_ret pe_str))
        pss_nil)
      (pss_cons (ps_if (pt_val (pe_callB call_isi (by rfl) L.z_isinstance (by decide +kernel) (pa_cons (pv 0) (pa_cons (pe_gc (v := .ref A.Kin) (by rfl) ⟨_, L.c_Kin.g, rfl⟩) pa_nil))))
        (pss_one (ps_ret pe_str))
        pss_nil)
      (pss_one (ps_ret pe_str)))))), ?_⟩
    have ty := th_ty L hd
    refine ⟨_, rfl, _, .ref A.Parts, _, .ref A.Parts, _, rfl, .own _, ty, kit_P L d, _, rfl, ite_or (fun e => ?_) fun e1 => ?_⟩
    · cases d <;> first | exact q | (cases e; done)
    refine ⟨_, rfl, _, .ref A.Table, _, .ref A.Table, _, rfl, .own _, ty, kit_T L d, _, rfl, ite_or (fun e => ?_) fun e2 => ?_⟩
    · cases d <;> first | exact q | (cases e; done)
    refine ⟨_, rfl, _, .ref A.Instance, _, .ref A.Instance, _, rfl, .own _, ty, kit_I L d, _, rfl, ite_or (fun e => ?_) fun e3 => ?_⟩
    · cases d <;> first | exact q | (cases e; done)
    refine ⟨_, rfl, _, .ref A.Kin, _, .ref A.Kin, _, rfl, .own _, ty, kit_K L d, _, rfl, ite_or (fun e => ?_) fun e4 => ?_⟩
    · cases d <;> first | exact q | (cases e; done)
    cases d <;> first | exact q | (cases e1; done) | (cases e2; done) | (cases e3; done) | (cases e4; done)
def kindD (S : St) : Dv → Str
  | .non => "null"
  | .bl _ => "boolean"
  | .int _ => "integer"
  | .str _ => "text"
  | .bi _ => "function"
  | .obj n => match S.things[n]? with
    | some d => kindT d
    | none => "function"
def okV (S : St) : Dv → Prop
  | .obj n => n < S.things.length
  | _ => True
def spKO (P : Program) (w : World) (A : Ads) : Sp := fun vs H Q _ => ∃ (a : Sa) (S : St) (v : V) (d : Dv), vs = [.ref a.s, v] ∧ SM P w A H a S ∧ Has A H v d ∧ okV S d ∧ Q (.str (kindD S d)) H
theorem ok_kind_of (L : Lib P K mg A) : FnOk P w K mg base CX0 2 L.kind_of.f L.kind_of.fd ["store", "value"] (spKO P w A) := by
  have G_kind_of_thing : FnOk P w K mg base CX0 1 L.kind_of_thing.f L.kind_of_thing.fd ["thing"] (spKT P w A) := ok_kind_of_thing L
  have G_Store_at : FnOk P w K mg base CX0 1 L.Store_at.f L.Store_at.fd ["self", "ref"] (spAt P w A) := ok_Store_at L
  refine L.kind_of.F.ok sc_kind_of (fun vs H Q E h => ?_) (fun cdv A' outer s H vs Q E hr h => ?_)
  · obtain ⟨a, S, v, d, rfl, _⟩ := h
    rfl
  · obtain ⟨a, S, v, d, rfl, hS, hv, ho, q⟩ := h
    refine ⟨_, (pss_cons (ps_if (pt_cmpR op_isN (pv 1) pe_non (nomark _))
        (pss_one (ps_ret pe_str))
        pss_nil)
      (pss_cons (ps_if (pt_val (pe_callB call_isi (by rfl) L.z_isinstance (by decide +kernel) (pa_cons (pv 1) (pa_cons (pe_bltn (v := .ty "bool") (by rfl) L.z_bool (by decide +kernel) rfl) pa_nil))))
        (pss_one (ps_ret pe_str))
        pss_nil)
      (pss_cons (ps_if (pt_val (pe_callB call_isi (by rfl) L.z_isinstance (by decide +kernel) (pa_cons (pv 1) (pa_cons (pe_bltn (v := .ty "int") (by rfl) L.z_int (by decide +kernel) rfl) pa_nil))))
        (pss_one (ps_ret pe_str))
        pss_nil)
      (pss_cons (ps_if (pt_val (pe_callB call_isi (by rfl) L.z_isinstance (by decide +kernel) (pa_cons (pv 1) (pa_cons (pe_bltn (v := .ty "str") (by rfl) L.z_str (by decide +kernel) rfl) pa_nil))))
        (pss_one (ps_ret pe_str))
        pss_nil)
      (pss_cons (ps_if (pt_val (pe_callB call_isi (by rfl) L.z_isinstance (by decide +kernel) (pa_cons (pv 1) (pa_cons (pe_gc (v := .ref A.Ref) (by rfl) ⟨_, L.c_Ref.g, rfl⟩) pa_nil))))
        (pss_one (ps_ret (pe_call G_kind_of_thing (hr.mono (by omega)) (by rfl) L.kind_of_thing.g L.kind_of_thing.F.kp L.kind_of_thing.b .nil pass0 (pa_cons (pe_meth (pv 0) L.c_Store.cl L.Store_at.m G_Store_at (hr.mono (by omega)) L.Store_at.b .nil pass0 (pa_cons (pv 1) pa_nil)) pa_nil))))
        pss_nil)
      (pss_one (ps_ret pe_str))))))), ?_⟩
    have ty := has_ty L hv
    have isn : decide (v = V.non) = decide (d = .non) := by
      cases d with
      | non => cases hv; rfl
      | obj n => obtain ⟨b, dx, rfl, _⟩ := hv; rfl
      | bi n => obtain ⟨b, dx, rfl, _⟩ := hv; rfl
      | _ => cases hv; rfl
    refine ⟨_, rfl, rfl, _, rfl, ite_or (fun e => ?_) fun e0 => ?_⟩
    · rw [isn] at e
      have : d = .non := of_decide_eq_true e
      subst this
      exact q
    rw [isn] at e0
    refine ⟨_, rfl, v, .ty "bool", _, _, _, rfl, .ty _, ty, kit_bool L d, _, rfl, ite_or (fun e => ?_) fun e1 => ?_⟩
    · cases d <;> first | exact q | (cases e; done)
    refine ⟨_, rfl, v, .ty "int", _, _, _, rfl, .ty _, ty, kit_int L d, _, rfl, ite_or (fun e => ?_) fun e2 => ?_⟩
    · cases d <;> first | exact q | (cases e; done) | (cases e1; done)
    refine ⟨_, rfl, v, .ty "str", _, _, _, rfl, .ty _, ty, kit_str L d, _, rfl, ite_or (fun e => ?_) fun e3 => ?_⟩
    · cases d <;> first | exact q | (cases e; done)
    refine ⟨_, rfl, v, .ref A.Ref, _, .ref A.Ref, _, rfl, .own _, ty, kit_R L d, _, rfl, ite_or (fun e => ?_) fun e4 => ?_⟩
    · cases d with
      | obj n =>
        obtain ⟨th, hth⟩ : ∃ th, S.things[n]? = some th := ⟨_, List.getElem?_eq_getElem ho⟩
        obtain ⟨x, m, hx, hm, ht⟩ := hS.get hth
        obtain ⟨dx, h1⟩ := hS.s_
        have q' : Q (.str (kindT th)) H := by
          have : kindD S (.obj n) = kindT th := by
            show (match S.things[n]? with
              | some d => kindT d
              | none => "function") = kindT th
            rw [hth]
          rw [← this]
          exact q
        obtain ⟨b, db, rfl, hb⟩ := hv
        exact ⟨_, rfl, a.s, dx, _, rfl, h1, st_no _ _ _ _ (by decide +kernel) (by decide +kernel) (by decide +kernel) (by decide +kernel), _, rfl, a, S, b, x, n, rfl, hS, ⟨b, db, rfl, hb⟩, hx, x, m, th, rfl, ht, q'⟩
      | _ => cases e
    cases d <;> first | exact q | (cases e0; done) | (cases e1; done) | (cases e2; done) | (cases e3; done) | (cases e4; done)
end
end My
namespace My
open PySem L2 SX XT XS XE
open C8 (pss_cut tCut cutS_slice pe_gc)
def Err (E : XK) (cE : Addr) (H : Hp) (k m : Str) : Prop := ∀ d, H d = none → E (.ref cE) (some d) (upd H d (.xd [("message", .str m), ("kind", .str k)]))
/-! ### entries -/
def valE (es : List (Dv × Dv)) (k : Dv) : Option Dv := (es.find? fun p => decide (p.1 = k)).map (·.2)
def putE (es : List (Dv × Dv)) (k v : Dv) : List (Dv × Dv) := if (valE es k).isSome = true then es.map (fun p => if p.1 = k then (p.1, v) else p) else es ++ [(k, v)]
theorem Ents.len {A : Ads} {H : Hp} : ∀ {es : List Ent} {ps : List (Dv × Dv)}, Ents A H es ps → es.length = ps.length
  | [], [], _ => rfl
  | _ :: _, _ :: _, h => congrArg (· + 1) (Ents.len h.2)
  | [], _ :: _, h => h.elim
  | _ :: _, [], h => h.elim
theorem Ents.val {A : Ads} {H : Hp} {k : Dv} (hk : keyD k = true) : ∀ {es : List Ent} {ps : List (Dv × Dv)}, Ents A H es ps → (valT es (toV k)).isSome = (valE ps k).isSome
  | [], [], _ => rfl
  | e :: es, p :: ps, h => by
    have ih := Ents.val hk h.2
    unfold valT valE at ih ⊢
    rw [List.find?_cons, List.find?_cons]
    have : decide (e.1 = toV k) = decide (p.1 = k) := by
      rw [decide_eq_decide, h.1.2.1]
      exact ⟨fun z => toV_inj h.1.1 hk z, fun z => by rw [z]⟩
    rw [this]
    by_cases c : p.1 = k
    · rw [decide_eq_true c]; rfl
    · rw [decide_eq_false c]; exact ih
  | [], _ :: _, h => h.elim
  | _ :: _, [], h => h.elim
theorem Ents.app {A : Ads} {H : Hp} : ∀ {es fs : List Ent} {ps qs : List (Dv × Dv)}, Ents A H es ps → Ents A H fs qs → Ents A H (es ++ fs) (ps ++ qs)
  | [], _, [], _, _, g => g
  | _ :: _, _, _ :: _, _, h, g => ⟨h.1, Ents.app h.2 g⟩
  | [], _, _ :: _, _, h, _ => h.elim
  | _ :: _, _, [], _, h, _ => h.elim
theorem Ents.put {A : Ads} {H : Hp} {k v : Dv} {b q : Addr} {vv : V} (hk : keyD k = true) (hq : H q = some (.tup [toV k, vv])) (hv : Has A H vv v) {es : List Ent} {ps : List (Dv × Dv)} (h : Ents A H es ps) : Ents A H (putT es (toV k) b (.ref q)) (putE ps k v) := by
  unfold putT putE
  rw [h.val hk]
  split
  · have : ∀ {es : List Ent} {ps : List (Dv × Dv)}, Ents A H es ps → Ents A H (es.map fun e => if e.1 = toV k then (e.1, e.2.1, .ref q) else e) (ps.map fun p => if p.1 = k then (p.1, v) else p) := by
      intro es
      induction es with
      | nil =>
        intro ps h
        cases ps with
        | nil => trivial
        | cons p ps => exact h.elim
      | cons e es ih =>
        intro ps h
        cases ps with
        | nil => exact h.elim
        | cons p ps =>
          obtain ⟨⟨k1, k2, q1, v1, k3, k4, k5⟩, r⟩ := h
          refine ⟨?_, ih r⟩
          by_cases c : p.1 = k
          · have c2 : e.1 = toV k := by rw [k2, c]
            simp only [c2, c, if_true]
            exact ⟨by rw [← c]; exact k1, trivial, q, vv, rfl, hq, hv⟩
          · have c2 : ¬ e.1 = toV k := fun z => c (toV_inj k1 hk (k2.symm.trans z))
            simp only [c2, c, if_false]
            exact ⟨k1, k2, q1, v1, k3, k4, k5⟩
    exact this h
  · exact h.app ⟨⟨hk, rfl, q, vv, rfl, hq, hv⟩, trivial⟩
/-! ### how a store goes on -/
structure Ev (a a' : Sa) (H H' : Hp) : Prop where
  fr : Fr a H H'
  s : a'.s = a.s
  gw : ∀ b, a'.own b → a.own b ∨ H b = none
theorem Ev.trans {a b c : Sa} {H H1 H2 : Hp} (x : Ev a b H H1) (y : Ev b c H1 H2) : Ev a c H H2 := by
  refine ⟨fun d u e n => y.fr _ _ (x.fr _ _ e n) fun z => ?_, y.s.trans x.s, fun d z => ?_⟩
  · rcases x.gw d z with q | q
    · exact n q
    · rw [q] at e; cases e
  · rcases y.gw d z with q | q
    · exact x.gw d q
    · cases e : H d with
      | none => exact .inr rfl
      | some u =>
        by_cases o : a.own d
        · exact .inl o
        · rw [x.fr _ _ e o] at q; cases q
theorem Ev.same {a : Sa} {H H' : Hp} (s : Same H H') : Ev a a H H' := ⟨fun b u e _ => s b u e, rfl, fun _ z => .inl z⟩
theorem Ev.rfl' {a : Sa} {H : Hp} : Ev a a H H := Ev.same fun _ _ e => e
theorem Ev.nin {a a' : Sa} {H H' : Hp} (x : Ev a a' H H') {p : Addr} {u : HO} (e : H p = some u) (n : ¬ a.own p) : ¬ a'.own p := fun z => by
  rcases x.gw p z with q | q
  · exact n q
  · rw [q] at e; cases e
section
variable {P : Program} {w : World} {K : PySem.W.Frag} {mg : Str → Option Value} {base : Heap} {A : Ads}
/-! ### checks that hold -/
def spCS : Sp := fun vs H Q _ => ∃ i : Int, vs = [.int i] ∧ i ≤ 1000 ∧ Q .non H
theorem ok_check_size (L : Lib P K mg A) : FnOk P w K mg base CX0 1 L.check_size.f L.check_size.fd ["size"] spCS := by
  refine L.check_size.F.ok sc_check_size (fun vs H Q E h => ?_) (fun cdv A' outer s H vs Q E hr h => ?_)
  · obtain ⟨i, rfl, _⟩ := h
    rfl
  · obtain ⟨i, rfl, hi, q⟩ := h
    refine ⟨_, (pss_one (ps_if (pt_cmpR op_gt (pv 0) (pe_glob (v := .int 1000) (by rfl) L.v_MOST_HELD.choose_spec ⟨_, rfl⟩) (nomark _))
        (pss_one ps_never)
        pss_nil)), ?_⟩
    exact ⟨_, rfl, _, _, rfl, rfl, _, rfl, ifF (decide_eq_false (by omega)) q⟩
theorem kit_is2 (L : Lib P K mg A) (d : Dv) : PySem.W.kitAny K (tyD A d) [.type "int", .type "str"] = some (dI d || dS d) := by
  unfold PySem.W.kitAny
  rw [kit_int L d]
  cases h : dI d with
  | true => rfl
  | false =>
    unfold PySem.W.kitAny
    rw [kit_str L d]
    cases dS d <;> rfl
def spIK (A : Ads) : Sp := fun vs H Q _ => ∃ v d, vs = [v] ∧ Has A H v d ∧ ∀ H', Same H H' → Q (.bl (keyD d)) H'
theorem ok_is_key (L : Lib P K mg A) : FnOk P w K mg base CX0 1 L.is_key.f L.is_key.fd ["value"] (spIK A) := by
  refine L.is_key.F.ok sc_is_key (fun vs H Q E h => ?_) (fun cdv A' outer s H vs Q E hr h => ?_)
  · obtain ⟨v, d, rfl, _⟩ := h
    rfl
  · obtain ⟨v, d, rfl, hv, q⟩ := h
    refine ⟨_, (pss_one (ps_ret (pe_or (pe_cmpR op_isN (pv 0) pe_non (nomark _)) (pe_one (pe_callB call_isiT (by rfl) L.z_isinstance (by decide +kernel) (pa_cons (pv 0) (pa_cons (pe_tup (pa_cons (pe_bltn (v := .ty "int") (by rfl) L.z_int (by decide +kernel) rfl) (pa_cons (pe_bltn (v := .ty "str") (by rfl) L.z_str (by decide +kernel) rfl) pa_nil))) pa_nil))))))), ?_⟩
    refine ⟨_, rfl, rfl, _, rfl, ite_or (fun e => ?_) fun e0 => ?_⟩
    · have : d = .non := by
        have e := of_decide_eq_true e
        subst e
        cases d with
        | non => rfl
        | obj n => obtain ⟨b, dx, z, _⟩ := hv; cases z
        | bi n => obtain ⟨b, dx, z, _⟩ := hv; cases z
        | _ => cases hv
      subst this
      exact q H fun _ _ e => e
    · refine ⟨_, rfl, (by show 2 ≤ sizeLine; decide), fun p np => ?_⟩
      have s1 := same_upd (o := .tup [.ty "int", .ty "str"]) np
      refine ⟨v, p, [.ty "int", .ty "str"], tyD A d, [.type "int", .type "str"], keyD d, rfl, upd_same, .cons (.ty _) (.cons (.ty _) .nil), has_ty L (hv.sv (Same.sv s1)), ?_, q _ s1⟩
      refine (kit_is2 L d).trans ?_
      cases d with
      | non => cases hv; cases e0
      | _ => rfl
end
end My
namespace My
open PySem L2 SX XT XS XE
open XD
open C8 (pss_cut tCut cutS_slice pe_gc)
section
variable {P : Program} {w : World} {K : PySem.W.Frag} {mg : Str → Option Value} {base : Heap} {A : Ads}
theorem SM.fresh {H : Hp} {a : Sa} {S : St} (L : Lib P K mg A) (h : SM P w A H a S) {b : Addr} (n : H b = none) : ¬ a.own b := fun z => by
  obtain ⟨u, e, _⟩ := h.nv L z
  rw [n] at e
  cases e
theorem SM.grow {H H1 : Hp} {a : Sa} {S : St} {x m : Addr} (L : Lib P K mg A) (h : SM P w A H a S) (s1 : Same H H1) (nx : H x = none) (nm : H m = none) :
    x ∉ a.X ∧ m ∉ a.t :: a.o :: a.l :: a.M ∧ ∀ H2, Keep a.t H1 H2 → Ev a { a with X := a.X ++ [x], M := a.M ++ [m] } H H2 := by
  have fx := h.fresh L nx
  have fm := h.fresh L nm
  refine ⟨fun z => fx (.inr (.inr (.inr (.inr (.inl z))))), fun z => ?_, fun H2 k => ⟨fun b u e n => k _ _ (s1 _ _ e) fun z => n (.inr (.inl z)), rfl, fun b z => ?_⟩⟩
  · simp only [List.mem_cons] at z
    rcases z with z | z | z | z
    · exact fm (.inr (.inl z))
    · exact fm (.inr (.inr (.inl z)))
    · exact fm (.inr (.inr (.inr (.inl z))))
    · exact fm (.inr (.inr (.inr (.inr (.inr z)))))
  · rcases z with z | z | z | z | z | z
    · exact .inl (.inl z)
    · exact .inl (.inr (.inl z))
    · exact .inl (.inr (.inr (.inl z)))
    · exact .inl (.inr (.inr (.inr (.inl z))))
    · rcases List.mem_append.mp z with z | z
      · exact .inl (.inr (.inr (.inr (.inr (.inl z)))))
      · rw [List.mem_singleton] at z; exact .inr (z ▸ nx)
    · rcases List.mem_append.mp z with z | z
      · exact .inl (.inr (.inr (.inr (.inr (.inr z)))))
      · rw [List.mem_singleton] at z; exact .inr (z ▸ nm)
/-- how a new thing is told -/
def New (P : Program) (w : World) (A : Ads) (a : Sa) (S : St) (H : Hp) (d : Th) (Q : VK) : Prop := ∀ H' r a', Ev a a' H H' → SM P w A H' a' { S with things := S.things ++ [d] } → Has A H' (.ref r) (.obj S.things.length) → Q (.ref r) H'
def spML (P : Program) (w : World) (K : PySem.W.Frag) (A : Ads) : Sp := fun vs H Q _ => ∃ (a : Sa) (S : St) (l : Addr) (us : List V) (ds : List Dv), vs = [.ref a.s, .ref l] ∧ SM P w A H a S ∧ SqL K H l us ∧ Hs A H us ds ∧ ds.length ≤ 1000 ∧ S.things.length < 100000 ∧ New P w A a S H (.parts ds) Q
theorem ok_make_list (L : Lib P K mg A) : FnOk P w K mg base CX0 4 L.make_list.f L.make_list.fd ["store", "values"] (spML P w K A) := by
  have G_check_size : FnOk P w K mg base CX0 1 L.check_size.f L.check_size.fd ["size"] spCS := ok_check_size L
  have G_Store_make : FnOk P w K mg base CX0 3 L.Store_make.f L.Store_make.fd ["self", "thing"] (spMake P w A) := ok_Store_make L
  have G_Parts_init : FnOk P w K mg base CX0 1 L.Parts_init.f L.Parts_init.fd ["self", "held"] (spHI A.Parts "held" K) := ok_Parts_init L
  refine L.make_list.F.ok sc_make_list (fun vs H Q E h => ?_) (fun cdv A' outer s H vs Q E hr h => ?_)
  · obtain ⟨a, S, l, us, ds, rfl, _⟩ := h
    rfl
  · obtain ⟨a, S, l, us, ds, rfl, hS, hl, hd, hn, hb, q⟩ := h
    have hul := hd.len
    refine ⟨_, (pss_cons (ps_expr (pe_call G_check_size (hr.mono (by omega)) (by rfl) L.check_size.g L.check_size.F.kp L.check_size.b .nil pass0 (pa_cons (pe_callB call_len_seq (by rfl) L.z_len PySem.boot_len (pa_cons (pv 1) pa_nil)) pa_nil)))
      (pss_one (ps_ret (pe_meth (pv 0) L.c_Store.cl L.Store_make.m G_Store_make (hr.mono (by omega)) L.Store_make.b .nil pass0 (pa_cons (pe_make L.Parts_init.m G_Parts_init (hr.mono (by omega)) (by rfl) L.c_Parts.g L.Parts_init.b .nil pass0 (pa_cons (pv 1) pa_nil)) pa_nil))))), ?_⟩
    refine ⟨_, rfl, l, us, rfl, .inl hl, _, rfl, by omega, ?_⟩
    obtain ⟨dx, h1⟩ := hS.s_
    refine ⟨_, rfl, a.s, dx, _, rfl, h1, st_no _ _ _ _ (by decide +kernel) (by decide +kernel) (by decide +kernel) (by decide +kernel), _, rfl, ?_⟩
    intro x dy nx ndx ndxx
    have sm0 : Same H (upd (upd H dy (.own x)) x (.ins A.Parts dy [])) := fun b u e => by
      rw [upd_ne (ne_of_none e nx), upd_ne (ne_of_none e ndx)]
      exact e
    refine ⟨x, dy, l, us, rfl, upd_same, sm0.seq hl, fun H1 m k1 hx nm hm => ⟨rfl, ?_⟩⟩
    have s1 := Same.made nx ndx k1
    have nm0 : H m = none := sm0.free nm
    obtain ⟨g1, g2, g3⟩ := hS.grow L s1 nx nm0
    refine ⟨a, S, x, m, .parts ds, rfl, hS.same s1, ⟨dy, us, hx, hm, hd.imp fun _ _ h => h.sv (Same.sv s1)⟩, g1, g2, hb, fun H2 r k2 hS2 nr hr2 => ?_⟩
    exact q H2 r _ (g3 H2 k2) hS2 hr2
/-! ### make_map -/
def Prs (A : Ads) (K : PySem.W.Frag) (H : Hp) : List V → List (Dv × Dv) → Prop
  | [], [] => True
  | v :: vs, p :: ps => (keyD p.1 = true ∧ ∃ q k u, v = .ref q ∧ SqT K H q [k, u] ∧ Has A H k p.1 ∧ Has A H u p.2) ∧ Prs A K H vs ps
  | _, _ => False
theorem Prs.len {H : Hp} : ∀ {vs : List V} {ps : List (Dv × Dv)}, Prs A K H vs ps → vs.length = ps.length
  | [], [], _ => rfl
  | _ :: _, _ :: _, h => congrArg (· + 1) (Prs.len h.2)
  | [], _ :: _, h => h.elim
  | _ :: _, [], h => h.elim
theorem Prs.at {H : Hp} : ∀ {vs : List V} {ps : List (Dv × Dv)} {i : Nat} {v : V}, Prs A K H vs ps → vs[i]? = some v → ∃ p q k u, ps[i]? = some p ∧ keyD p.1 = true ∧ v = .ref q ∧ SqT K H q [k, u] ∧ Has A H k p.1 ∧ Has A H u p.2
  | _ :: _, p :: _, 0, _, h, e => by
    simp at e
    subst e
    obtain ⟨h1, q, k, u, h2, h3, h4, h5⟩ := h.1
    exact ⟨p, q, k, u, rfl, h1, h2, h3, h4, h5⟩
  | _ :: _, _ :: _, i + 1, _, h, e => by
    simp at e
    obtain ⟨p, r⟩ := Prs.at h.2 e
    exact ⟨p, by simpa using r⟩
  | [], _ :: _, _, _, h, _ => h.elim
  | _ :: _, [], _, _, h, _ => h.elim
  | [], [], _, _, _, e => by simp at e
/-! ### next_of -/
end
end My
namespace My
open PySem L2 SX XT XS XE XD XL
open C8 (pss_cut tCut cutS_slice pe_gc)
section
variable {P : Program} {w : World} {K : PySem.W.Frag} {mg : Str → Option Value} {base : Heap} {A : Ads}
def kn : Nat → Str := fun n => if n = 0 then "null" else if n = 1 then "boolean" else if n = 2 then "integer" else if n = 3 then "text" else if n = 4 then "function" else if n = 5 then "list" else if n = 6 then "map" else if n = 7 then "instance" else "class"
def kcT : Option Th → Nat
  | some (.parts _) => 5
  | some (.table _) => 6
  | some (.inst _ _) => 7
  | some (.kin _ _ _) => 8
  | _ => 4
def kc (S : St) : Dv → Nat
  | .non => 0
  | .bl _ => 1
  | .int _ => 2
  | .str _ => 3
  | .bi _ => 4
  | .obj n => kcT S.things[n]?
theorem kind_kn (S : St) (d : Dv) : kindD S d = kn (kc S d) ∧ kc S d < 9 := by
  cases d with
  | obj n =>
    show (match S.things[n]? with
      | some d => kindT d
      | none => "function") = kn (kcT S.things[n]?) ∧ kcT S.things[n]? < 9
    cases S.things[n]? with
    | none => exact ⟨rfl, by simp [kcT]⟩
    | some t => cases t <;> exact ⟨rfl, by simp [kcT]⟩
  | _ => exact ⟨rfl, by simp [kc]⟩
end
end My
namespace My
open PySem L2 SX XT XS XE
open C8 (pss_cut tCut cutS_slice pe_gc)
theorem evSE (cda cc : Addr) : (supOf sx_ScriptError "ScriptError.__init__" cda cc).Ev := fun env => ⟨⟨_, by rfl⟩, by rfl, by rfl⟩
theorem scSE : NdefX.NScope ["self", "kind", "message", "__class__"] ["self", "kind", "message"] ["__class__"] (defScope sx_ScriptError) := NdefX.nscope_by (by decide +kernel)
section
variable {P : Program} {w : World} {K : PySem.W.Frag} {mg : Str → Option Value} {base : Heap} {cE fI cda cc : Addr}
theorem lt_len {s : Str} (h : s.length ≤ 100000) : s.length ≤ sizeLine := by rw [sizeLine_eq]; omega
theorem ok_SE {dV kV doc pm ct oc : Value} {an od : Option Addr} {osl : Array (Option Value)} (lk : K.lookup fI = some ⟨oc, od, .func (PySem.W.ksFn "__init__" "ScriptError.__init__" (defArgs sx_ScriptError) (defBody sx_ScriptError) (defScope sx_ScriptError) dV kV doc pm an (.ref cda) ct cc), osl⟩)
    (hcd : PySem.W.codeIn K (.ref cda) "ScriptError.__init__" = true) (T : Exn P K mg cE fI "kind" "message") (U : Sup P K mg cda cc cE cE) :
    FnOk P w K mg base CX0 1 fI (PySem.W.ksFn "__init__" "ScriptError.__init__" (defArgs sx_ScriptError) (defBody sx_ScriptError) (defScope sx_ScriptError) dV kV doc pm an (.ref cda) ct cc) ["self", "kind", "message"] (spTwo cE "kind" "message") := by
  refine fn_super (D := cE) (F := supOf sx_ScriptError "ScriptError.__init__" cda cc) lk hcd scSE rfl rfl (show (defScope sx_ScriptError).names.lookup ("super" : Str) = some .globalImplicit by decide +kernel) (evSE cda cc) (fun vs H Q E h => ?_) (fun A outer s H vs Q E hr h => ?_)
  · obtain ⟨a, v1, v2, rfl, _⟩ := h
    rfl
  · obtain ⟨a, v1, v2, rfl, ha, ⟨k1, rfl, z1⟩, ⟨k2, rfl, z2⟩, q⟩ := h
    refine ⟨a, cE, _, _, rfl, ha, T.oex, U, pa_cons (pe_joined (.cons (pe_fmt (pv 1)) (.cons pe_str (.cons (pe_fmt (pv 2)) .nil)))) pa_nil, pss_cons (ps_ost (pv 0) (pv 1)) (pss_one (ps_ost (pv 0) (pv 2))), ?_⟩
    have l0 : (Str.empty : Str).length = 0 := by decide +kernel
    have l2 : ((": " : Str)).length = 2 := by decide +kernel
    refine ⟨_, rfl, .inl ⟨k1, rfl, lt_len z1, k1, rfl, ?_, ?_⟩⟩
    · rw [Str.length_append, l0, sizeLine_eq]
      omega
    · refine ⟨_, rfl, ?_, _, rfl, .inl ⟨k2, rfl, lt_len z2, k2, rfl, ?_, ?_⟩⟩
      · rw [Str.length_append, Str.length_append, l0, l2, sizeLine_eq]
        omega
      · rw [Str.length_append, Str.length_append, Str.length_append, l0, l2, sizeLine_eq]
        omega
      · refine ⟨by show 1 ≤ 1000; omega, ha, ?_⟩
        refine ⟨_, rfl, _, rfl, a, cE, rfl, T.oex, T.n1, .inl ⟨ha, fun d hd hne => ?_⟩⟩
        refine ⟨_, rfl, _, rfl, a, cE, rfl, T.oex, T.n2, .inr ⟨d, [("kind", .str k1)], upd_same, ?_, (by show 1 ≤ 900; omega), ?_⟩⟩
        · rw [upd_ne hne]
          exact upd_same
        · exact q d hd hne
end
end My
namespace My
open PySem L2 SX XT XS XE XD XL
open C8 (pss_cut tCut cutS_slice pe_gc)
section
variable {P : Program} {w : World} {K : PySem.W.Frag} {mg : Str → Option Value} {base : Heap} {A : Ads}
/-! ### quoted -/
def spQu : Sp := fun vs H Q _ => ∃ x : Str, vs = [.str x] ∧ x.length ≤ 1000 ∧ Q (.str (XQ.qText x)) H
theorem ok_quoted (L : Lib P K mg A) : FnOk P w K mg base CX0 1 L.quoted.f L.quoted.fd ["text"] spQu := by
  refine XQ.okT L.quoted.F sc_quoted (by decide +kernel) (by decide) (fun vs H Q E h => ?_) (fun cdv A' outer s H vs Q E hr h => ?_)
  · obtain ⟨x, rfl, _⟩ := h
    rfl
  · obtain ⟨x, rfl, hx, q⟩ := h
    refine ⟨_, psst_cons (XQ.pst_set (i := 1) sc_quoted.nd rfl (.inl rfl) (CwR.pet_replT (CwR.pet_replT (CwR.pet_replC (pv 0)))))
      (PSsT.of (pss_one (ps_ret (pe_op op_add_str (pe_op op_add_str pe_str (pv 1)) pe_str)))), ?_⟩
    have h1 := TK.replace_len x "\\" "\\\\"
    have h2 := TK.replace_len (Txt.replace x "\\" "\\\\") "\"" "\\\""
    have h3 := TK.replace_len (Txt.replace (Txt.replace x "\\" "\\\\") "\"" "\\\"") "\n" "\\n"
    have l1 : (("\\\\" : Str)).length = 2 := by decide +kernel
    have l2 : (("\\\"" : Str)).length = 2 := by decide +kernel
    have l3 : (("\\n" : Str)).length = 2 := by decide +kernel
    have l4 : (("\"" : Str)).length = 1 := by decide +kernel
    rw [l1] at h1
    rw [l2] at h2
    rw [l3] at h3
    have hz : ∀ n : Nat, n ≤ 100000 → n ≤ sizeLine := fun n h => by rw [sizeLine_eq]; omega
    refine ⟨_, rfl, x, rfl, by rw [l1]; omega, _, rfl, by rw [l2]; omega, _, rfl, by rw [l3]; omega, ?_⟩
    refine ⟨_, rfl, _, _, rfl, rfl, hz _ (by rw [l4]; omega), _, _, rfl, rfl, hz _ (by rw [Str.length_append, l4]; omega), q⟩
end
end My
namespace My
open PySem L2 SX XT XS XE XD XL
open C8 (pss_cut tCut cutS_slice pe_gc)
section
variable {P : Program} {w : World} {K : PySem.W.Frag} {mg : Str → Option Value} {base : Heap} {A : Ads}
/-- where a Form stands: itself, its pieces, the numbers around -/
structure Fa where
  f : Addr
  p : Addr
  r : Addr
def formF (s p r : Addr) (most size : Nat) : List (Str × V) := [("store", .ref s), ("most", .int (most : Nat)), ("pieces", .ref p), ("size", .int (size : Nat)), ("around", .ref r)]
def szP (ps : List Str) : Nat := (ps.map Str.length).sum
structure FormAt (A : Ads) (H : Hp) (a : Fa) (s : Addr) (most : Nat) (ps : List Str) (ar : List Nat) : Prop where
  f : ∃ dx, H a.f = some (.ins A.Form dx (formF s a.p a.r most (szP ps)))
  p : H a.p = some (.lst (ps.map V.str))
  r : H a.r = some (.lst (ar.map fun n => V.int (n : Nat)))
  pr : a.p ≠ a.r
theorem FormAt.np {H : Hp} {a : Fa} {s : Addr} {most : Nat} {ps : List Str} {ar : List Nat} (h : FormAt A H a s most ps ar) : a.f ≠ a.p ∧ a.f ≠ a.r := by
  obtain ⟨dx, e⟩ := h.f
  exact ⟨fun z => (by rw [z, h.p] at e; cases e), fun z => (by rw [z, h.r] at e; cases e)⟩
/-- nothing but the form changes -/
def Fk (a : Fa) (H H' : Hp) : Prop := ∀ b u, H b = some u → b ≠ a.f → b ≠ a.p → b ≠ a.r → H' b = some u
theorem Fk.trans {a : Fa} {H H1 H2 : Hp} (x : Fk a H H1) (y : Fk a H1 H2) : Fk a H H2 := fun b u e n1 n2 n3 => y b u (x b u e n1 n2 n3) n1 n2 n3
theorem Fk.same {a : Fa} {H H' : Hp} (s : Same H H') : Fk a H H' := fun b u e _ _ _ => s b u e
theorem FormAt.same {H H' : Hp} {a : Fa} {s : Addr} {most : Nat} {ps : List Str} {ar : List Nat} (sm : Same H H') (h : FormAt A H a s most ps ar) : FormAt A H' a s most ps ar := by
  obtain ⟨dx, e⟩ := h.f
  exact ⟨⟨dx, sm _ _ e⟩, sm _ _ h.p, sm _ _ h.r, h.pr⟩
theorem fm_store (s p r : Addr) (m n : Nat) : (formF s p r m n).lookup ("store" : Str) = some (.ref s) := lk_hit
theorem fm_most (s p r : Addr) (m n : Nat) : (formF s p r m n).lookup ("most" : Str) = some (.int (m : Nat)) := by
  unfold formF
  rw [lk_skip (by decide +kernel)]; exact lk_hit
theorem fm_pieces (s p r : Addr) (m n : Nat) : (formF s p r m n).lookup ("pieces" : Str) = some (.ref p) := by
  unfold formF
  rw [lk_skip (by decide +kernel), lk_skip (by decide +kernel)]; exact lk_hit
theorem fm_size (s p r : Addr) (m n : Nat) : (formF s p r m n).lookup ("size" : Str) = some (.int (n : Nat)) := by
  unfold formF
  rw [lk_skip (by decide +kernel), lk_skip (by decide +kernel), lk_skip (by decide +kernel)]; exact lk_hit
theorem fm_around (s p r : Addr) (m n : Nat) : (formF s p r m n).lookup ("around" : Str) = some (.ref r) := by
  unfold formF
  rw [lk_skip (by decide +kernel), lk_skip (by decide +kernel), lk_skip (by decide +kernel), lk_skip (by decide +kernel)]; exact lk_hit
theorem fm_no {n : Str} (s p r : Addr) (m k : Nat) (h1 : (n == ("store" : Str)) = false) (h2 : (n == ("most" : Str)) = false) (h3 : (n == ("pieces" : Str)) = false) (h4 : (n == ("size" : Str)) = false) (h5 : (n == ("around" : Str)) = false) : (formF s p r m k).lookup n = none := by
  unfold formF
  rw [lk_skip h1, lk_skip h2, lk_skip h3, lk_skip h4, lk_skip h5]; rfl
def spFI (A : Ads) : Sp := fun vs H Q _ => ∃ (x dx s : Addr) (most : Nat), vs = [.ref x, .ref s, .int (most : Nat)] ∧ H x = some (.ins A.Form dx []) ∧ ∀ H' (a : Fa), a.f = x → Keep x H H' → FormAt A H' a s most [] [] → H a.p = none → H a.r = none → Q .non H'
theorem ok_Form_init (L : Lib P K mg A) : FnOk P w K mg base CX0 1 L.Form_init.f L.Form_init.fd ["self", "store", "most"] (spFI A) := by
  refine L.Form_init.F.ok sc_Form_init (fun vs H Q E h => ?_) (fun cdv A' outer s H vs Q E hr h => ?_)
  · obtain ⟨x, dx, st, most, rfl, _⟩ := h
    rfl
  · obtain ⟨x, dx, st, most, rfl, hx, q⟩ := h
    refine ⟨_, (pss_cons (ps_fld (pv 0) (pv 1) rfl)
      (pss_cons (ps_fld (pv 0) (pv 2) rfl)
      (pss_cons (ps_fld (pv 0) (pe_lst pa_nil) rfl)
      (pss_cons (ps_fld (pv 0) pe_int rfl)
      (pss_one (ps_fld (pv 0) (pe_lst pa_nil) rfl)))))), ?_⟩
    refine ⟨_, rfl, _, rfl, x, A.Form, dx, _, rfl, hx, L.c_Form.cl, L.n_Form_store, (by show 0 < 1000; decide), ?_⟩
    refine ⟨_, rfl, _, rfl, x, A.Form, dx, _, rfl, upd_same, L.c_Form.cl, L.n_Form_most, (by show 1 < 1000; decide), ?_⟩
    refine ⟨Nat.zero_le _, fun p hp => ?_⟩
    have npx : p ≠ x := (ne_of_none upd_same hp).symm
    refine ⟨_, rfl, x, A.Form, dx, _, rfl, by rw [upd_ne npx.symm]; exact upd_same, L.c_Form.cl, L.n_Form_pieces, (by show 2 < 1000; decide), ?_⟩
    refine ⟨_, rfl, x, A.Form, dx, _, rfl, upd_same, L.c_Form.cl, L.n_Form_size, (by show 3 < 1000; decide), ?_⟩
    refine ⟨Nat.zero_le _, fun r hr' => ?_⟩
    have nrx : r ≠ x := (ne_of_none upd_same hr').symm
    refine ⟨_, rfl, x, A.Form, dx, _, rfl, by rw [upd_ne nrx.symm]; exact upd_same, L.c_Form.cl, L.n_Form_around, (by show 4 < 1000; decide), ?_⟩
    have nrp : r ≠ p := fun z => by
      rw [z, upd_ne npx, upd_ne npx, upd_same] at hr'
      cases hr'
    have hp0 : H p = none := by rw [upd_ne npx, upd_ne npx] at hp; exact hp
    have hr0 : H r = none := by rw [upd_ne nrx, upd_ne nrx, upd_ne nrp, upd_ne nrx, upd_ne nrx] at hr'; exact hr'
    refine q _ ⟨x, p, r⟩ rfl (fun b u e n => ?_) ⟨⟨dx, upd_same⟩, ?_, ?_, nrp.symm⟩ hp0 hr0
    · have nbp := ne_of_none e hp0
      have nbr := ne_of_none e hr0
      rw [upd_ne n, upd_ne nbr, upd_ne n, upd_ne n, upd_ne nbp, upd_ne n, upd_ne n]
      exact e
    · rw [upd_ne npx, upd_ne nrp.symm, upd_ne npx, upd_ne npx, upd_same]; rfl
    · rw [upd_ne nrx, upd_same]; rfl
def spFAdd (A : Ads) : Sp := fun vs H Q _ => ∃ (a : Fa) (s : Addr) (most : Nat) (ps : List Str) (ar : List Nat) (t : Str), vs = [.ref a.f, .str t] ∧ FormAt A H a s most ps ar ∧ ps.length < 1000000 ∧ t.length ≤ 100000 ∧
  ∀ H', Fk a H H' → FormAt A H' a s most (ps ++ [t]) ar → Q .non H'
theorem szP_snoc (ps : List Str) (t : Str) : szP (ps ++ [t]) = szP ps + t.length := by
  unfold szP
  rw [List.map_append, List.sum_append]
  rfl
theorem ok_Form_add (L : Lib P K mg A) : FnOk P w K mg base CX0 1 L.Form_add.f L.Form_add.fd ["self", "text"] (spFAdd A) := by
  refine L.Form_add.F.ok sc_Form_add (fun vs H Q E h => ?_) (fun cdv A' outer s H vs Q E hr h => ?_)
  · obtain ⟨a, st, most, ps, ar, t, rfl, _⟩ := h
    rfl
  · obtain ⟨a, st, most, ps, ar, t, rfl, hF, hl, ht, q⟩ := h
    refine ⟨_, (pss_cons (ps_expr (pe_bm PySem.F.plainAttrs_list PySem.F.slot_list_append PySem.F.type_list_append mt_append (pe_fld (pv 0) rfl) (pa_cons (pv 1) pa_nil)))
      (pss_one (ps_fldaug (pv 0) (pe_callB call_len_str (by rfl) L.z_len PySem.boot_len (pa_cons (pv 1) pa_nil)) in_add))), ?_⟩
    obtain ⟨dx, e⟩ := hF.f
    obtain ⟨n1, n2⟩ := hF.np
    refine ⟨_, rfl, a.f, A.Form, dx, _, .ref a.p, rfl, e, L.c_Form.cl, L.n_Form_pieces, fm_pieces _ _ _ _ _, .inl ⟨rfl, _, SqL.of hF.p⟩, _, rfl, a.p, _, _, rfl, rfl, hF.p, Nat.lt_of_lt_of_le (m := 1000000) (by rw [List.length_map]; exact hl) (by decide), ?_⟩
    have e2 : upd H a.p (.lst (ps.map V.str ++ [.str t])) a.f = some (.ins A.Form dx (formF st a.p a.r most (szP ps))) := by rw [upd_ne n1]; exact e
    have hs : t.length ≤ sizeLine := Nat.le_trans ht (by decide)
    refine ⟨_, rfl, a.f, A.Form, dx, _, _, rfl, e2, L.c_Form.cl, L.n_Form_size, fm_size _ _ _ _ _, _, rfl, t, rfl, hs, _, _, rfl, rfl, dx, _, e2, (by show 5 < 1000; decide), ?_⟩
    refine q _ (fun b u e m1 m2 _ => by rw [upd_ne m1, upd_ne m2]; exact e) ⟨⟨dx, ?_⟩, ?_, ?_, hF.pr⟩
    · rw [upd_same, szP_snoc]
      rfl
    · rw [upd_ne n1.symm, upd_same, List.map_append]; rfl
    · rw [upd_ne n2.symm, upd_ne hF.pr.symm]; exact hF.r
def spFEn (A : Ads) : Sp := fun vs H Q _ => ∃ (a : Fa) (s : Addr) (most : Nat) (ps : List Str) (ar : List Nat), vs = [.ref a.f] ∧ FormAt A H a s most ps ar ∧ Q (.bl (decide (most < szP ps))) H
theorem ok_Form_is_enough (L : Lib P K mg A) : FnOk P w K mg base CX0 1 L.Form_is_enough.f L.Form_is_enough.fd ["self"] (spFEn A) := by
  refine L.Form_is_enough.F.ok sc_Form_is_enough (fun vs H Q E h => ?_) (fun cdv A' outer s H vs Q E hr h => ?_)
  · obtain ⟨a, st, most, ps, ar, rfl, _⟩ := h
    rfl
  · obtain ⟨a, st, most, ps, ar, rfl, hF, q⟩ := h
    refine ⟨_, (pss_one (ps_ret (pe_cmpR op_gt (pe_fld (pv 0) rfl) (pe_fld (pv 0) rfl) (nomark _)))), ?_⟩
    obtain ⟨dx, e⟩ := hF.f
    refine ⟨_, rfl, a.f, A.Form, dx, _, _, rfl, e, L.c_Form.cl, L.n_Form_size, fm_size _ _ _ _ _, _, rfl, a.f, A.Form, dx, _, _, rfl, e, L.c_Form.cl, L.n_Form_most, fm_most _ _ _ _ _, _, _, rfl, rfl, ?_⟩
    have : decide ((most : Int) < (szP ps : Int)) = decide (most < szP ps) := by
      by_cases h : most < szP ps
      · rw [decide_eq_true h, decide_eq_true (by omega)]
      · rw [decide_eq_false h, decide_eq_false (by omega)]
    show Q (.bl (decide ((most : Int) < (szP ps : Int)))) H
    rw [this]
    exact q
end
end My
namespace My
open PySem L2 SX XT XS XE XD XL
open C8 (pss_cut tCut cutS_slice pe_gc)
def nameOf (S : St) : Dv → Str
  | .obj k => match S.things[k]? with
    | some (.kin nm _ _) => nm
    | _ => ""
  | _ => ""
def headS (m : Nat) (x : Str) : Str := cutS x none (some ((m + 1 : Nat) : Int))
def plainS (S : St) (m : Nat) : Dv → Str
  | .non => "null"
  | .bl b => if b then "true" else "false"
  | .int i => Str.ofString (toString i)
  | .str x => XQ.qText (headS m x)
  | .bi _ => "<function>"
  | .obj n => match S.things[n]? with
    | some (.inst o _) => ("<" : Str) ++ headS m (nameOf S o) ++ (">" : Str)
    | some (.kin nm _ _) => ("<class " : Str) ++ headS m nm ++ (">" : Str)
    | _ => "<function>"
def okW (S : St) : Dv → Prop
  | .obj n => n < S.things.length
  | .str x => x.length ≤ 1000
  | .int i => i.natAbs.log2 < 1920
  | _ => True
def okT (S : St) : Th → Prop
  | .inst o _ => ∃ k nm par ms, o = .obj k ∧ S.things[k]? = some (.kin nm par ms)
  | .kin nm _ _ => nm.length ≤ 1000
  | .parts ds => ds.length ≤ 1000 ∧ ∀ d ∈ ds, okW S d
  | .table es => ∀ e ∈ es, keyD e.1 = true ∧ okW S e.1 ∧ okW S e.2
def WfS (S : St) : Prop := S.things.length ≤ 100000 ∧ ∀ (n : Nat) t, S.things[n]? = some t → okT S t
def thO (S : St) : Dv → Option Th
  | .obj n => S.things[n]?
  | _ => none
section
variable {P : Program} {w : World} {K : PySem.W.Frag} {mg : Str → Option Value} {base : Heap} {A : Ads}
def OptTh (P : Program) (w : World) (A : Ads) (H : Hp) (v : V) : Option Th → Prop
  | none => v = .non
  | some t => ∃ x m, v = .ref x ∧ ThAt P w A H x m t
def tyO (A : Ads) : Option Th → Value
  | none => .type "NoneType"
  | some t => .ref (clsT A t)
theorem opt_ty (L : Lib P K mg A) {H : Hp} {v : V} {o : Option Th} (h : OptTh P w A H v o) : TyX K H v (tyO A o) := by
  cases o with
  | none => cases h; exact .base .non
  | some t =>
    obtain ⟨x, m, rfl, ht⟩ := h
    exact th_ty L ht
theorem opt_P (L : Lib P K mg A) (o : Option Th) : PySem.W.kitOne K (tyO A o) (.ref A.Parts) = some (o.any tP) := by
  cases o with
  | none => exact L.k_NoneType_Parts
  | some t => exact kit_P L t
theorem opt_T (L : Lib P K mg A) (o : Option Th) : PySem.W.kitOne K (tyO A o) (.ref A.Table) = some (o.any tT) := by
  cases o with
  | none => exact L.k_NoneType_Table
  | some t => exact kit_T L t
theorem opt_I (L : Lib P K mg A) (o : Option Th) : PySem.W.kitOne K (tyO A o) (.ref A.Instance) = some (o.any tI) := by
  cases o with
  | none => exact L.k_NoneType_Instance
  | some t => exact kit_I L t
theorem opt_K (L : Lib P K mg A) (o : Option Th) : PySem.W.kitOne K (tyO A o) (.ref A.Kin) = some (o.any tK) := by
  cases o with
  | none => exact L.k_NoneType_Kin
  | some t => exact kit_K L t
theorem headS_len (m : Nat) (x : Str) : (headS m x).length ≤ x.length := cutS_length _ _ _
def spPlain (P : Program) (w : World) (A : Ads) : Sp := fun vs H Q _ => ∃ (a : Fa) (sa : Sa) (S : St) (most : Nat) (ps : List Str) (ar : List Nat) (v tv : V) (d : Dv), vs = [.ref a.f, v, tv] ∧ FormAt A H a sa.s most ps ar ∧ SM P w A H sa S ∧ Has A H v d ∧ OptTh P w A H tv (thO S d) ∧ WfS S ∧ okW S d ∧
  Q (.str (plainS S most d)) H
theorem ok_plain_form (L : Lib P K mg A) : FnOk P w K mg base CX0 2 L.plain_form.f L.plain_form.fd ["form", "value", "thing"] (spPlain P w A) := by
  have G_quoted : FnOk P w K mg base CX0 1 L.quoted.f L.quoted.fd ["text"] spQu := ok_quoted L
  have G_Store_at : FnOk P w K mg base CX0 1 L.Store_at.f L.Store_at.fd ["self", "ref"] (spAt P w A) := ok_Store_at L
  refine L.plain_form.F.ok sc_plain_form (fun vs H Q E h => ?_) (fun cdv A' outer s H vs Q E hr h => ?_)
  · obtain ⟨a, sa, S, most, ps, ar, v, tv, d, rfl, _⟩ := h
    rfl
  · obtain ⟨a, sa, S, most, ps, ar, v, tv, d, rfl, hF, hS, hv, ht, hw, ok, q⟩ := h
    obtain ⟨dx, ef⟩ := hF.f
    have hz : ∀ n : Nat, n ≤ 100000 → n ≤ sizeLine := fun n h => by rw [sizeLine_eq]; omega
    refine ⟨_, (pss_cons (ps_if (pt_cmpR op_isN (pv 1) pe_non (nomark _))
        (pss_one (ps_ret pe_str))
        pss_nil)
      (pss_cons (ps_if (pt_val (pe_callB call_isi (by rfl) L.z_isinstance (by decide +kernel) (pa_cons (pv 1) (pa_cons (pe_bltn (v := .ty "bool") (by rfl) L.z_bool (by decide +kernel) rfl) pa_nil))))
        (pss_one (ps_ret (pe_ifExp (pt_val (pv 1)) pe_str pe_str)))
        pss_nil)
      (pss_cons (ps_if (pt_val (pe_callB call_isi (by rfl) L.z_isinstance (by decide +kernel) (pa_cons (pv 1) (pa_cons (pe_bltn (v := .ty "int") (by rfl) L.z_int (by decide +kernel) rfl) pa_nil))))
        (pss_one (ps_ret (pe_callTy call_str_int (by rfl) L.z_str (by decide +kernel) (pa_cons (pv 1) pa_nil))))
        pss_nil)
      (pss_cons (ps_if (pt_val (pe_callB call_isi (by rfl) L.z_isinstance (by decide +kernel) (pa_cons (pv 1) (pa_cons (pe_bltn (v := .ty "str") (by rfl) L.z_str (by decide +kernel) rfl) pa_nil))))
        (pss_one (ps_ret (pe_call G_quoted (hr.mono (by omega)) (by rfl) L.quoted.g L.quoted.F.kp L.quoted.b .nil pass0 (pa_cons (pe_slice sl_str (pv 1) po_none (po_some (pe_op op_add (pe_fld (pv 0) rfl) pe_int))) pa_nil))))
        pss_nil)
      (pss_cons (ps_if (pt_val (pe_callB call_isi (by rfl) L.z_isinstance (by decide +kernel) (pa_cons (pv 2) (pa_cons (pe_gc (v := .ref A.Instance) (by rfl) ⟨_, L.c_Instance.g, rfl⟩) pa_nil))))
        (pss_cons (ps_set (i := 3) sc_plain_form.nd rfl (.inl rfl) (pe_fld (pe_meth (pe_fld (pv 0) rfl) L.c_Store.cl L.Store_at.m G_Store_at (hr.mono (by omega)) L.Store_at.b .nil pass0 (pa_cons (pe_fld (pv 2) rfl) pa_nil)) rfl))
      (pss_one (ps_ret (pe_op op_add_str (pe_op op_add_str pe_str (pe_slice sl_str (pv 3) po_none (po_some (pe_op op_add (pe_fld (pv 0) rfl) pe_int)))) pe_str))))
        pss_nil)
      (pss_cons (ps_if (pt_val (pe_callB call_isi (by rfl) L.z_isinstance (by decide +kernel) (pa_cons (pv 2) (pa_cons (pe_gc (v := .ref A.Kin) (by rfl) ⟨_, L.c_Kin.g, rfl⟩) pa_nil))))
        (pss_one (ps_ret (pe_op op_add_str (pe_op op_add_str pe_str (pe_slice sl_str (pe_fld (pv 2) rfl) po_none (po_some (pe_op op_add (pe_fld (pv 0) rfl) pe_int)))) pe_str)))
        pss_nil)
      (pss_one (ps_ret pe_str)))))))), ?_⟩
    refine ⟨_, rfl, rfl, _, rfl, ite_or (fun e => ?_) fun e => ?_⟩
    · cases d with
      | non => exact q
      | bl b => cases hv; cases e
      | int b => cases hv; cases e
      | str b => cases hv; cases e
      | obj n => obtain ⟨_, _, rfl, _⟩ := hv; cases e
      | bi n => obtain ⟨_, _, rfl, _⟩ := hv; cases e
    refine ⟨_, rfl, _, .ty "bool", _, .type "bool", _, rfl, .ty _, has_ty L hv, kit_bool L d, _, rfl, ite_or (fun e => ?_) fun e1 => ?_⟩
    · cases d with
      | bl b =>
        cases hv
        refine ⟨_, rfl, b, rfl, ?_⟩
        cases b
        · exact q
        · exact q
      | _ => cases e
    refine ⟨_, rfl, _, .ty "int", _, .type "int", _, rfl, .ty _, has_ty L hv, kit_int L d, _, rfl, ite_or (fun e => ?_) fun e2 => ?_⟩
    · cases d with
      | int b =>
        cases hv
        exact ⟨_, rfl, b, rfl, ok, q⟩
      | bl b => cases e1
      | _ => cases e
    refine ⟨_, rfl, _, .ty "str", _, .type "str", _, rfl, .ty _, has_ty L hv, kit_str L d, _, rfl, ite_or (fun e => ?_) fun e3 => ?_⟩
    · cases d with
      | str x =>
        cases hv
        have hx : x.length ≤ 1000 := ok
        refine ⟨_, rfl, _, rfl, a.f, A.Form, dx, _, _, rfl, ef, L.c_Form.cl, L.n_Form_most, fm_most _ _ _ _ _, _, _, rfl, rfl, _, rfl, x, rfl, hz _ (by omega), headS most x, rfl, Nat.le_trans (headS_len _ _) hx, q⟩
      | _ => cases e
    refine ⟨_, rfl, _, .ref A.Instance, _, .ref A.Instance, _, rfl, .own _, opt_ty L ht, opt_I L _, _, rfl, ite_or (fun e => ?_) fun e4 => ?_⟩
    · cases d with
      | obj n =>
        cases hth : S.things[n]? with
        | none =>
          have e : (S.things[n]?).any tI = true := e
          rw [hth] at e
          cases e
        | some t =>
          have e : (S.things[n]?).any tI = true := e
          rw [hth] at e
          have ht : OptTh P w A H tv S.things[n]? := ht
          rw [hth] at ht
          obtain ⟨x, m, rfl, ht⟩ := ht
          cases t with
          | inst o ns =>
            obtain ⟨k, nm, par, ms, rfl, hk⟩ := hw.2 n _ hth
            obtain ⟨dxi, vo, kvs, hx1, ho, _⟩ := id ht
            obtain ⟨xk, mk, hXk, _, dxk, vk, kvk, hk1, _⟩ := hS.get hk
            obtain ⟨rk, drk, rfl, hrk⟩ := id ho
            obtain ⟨dxs, hs0⟩ := hS.s_
            refine ⟨_, rfl, a.f, A.Form, dx, _, _, rfl, ef, L.c_Form.cl, L.n_Form_store, fm_store _ _ _ _ _, ?_⟩
            refine ⟨sa.s, dxs, _, rfl, hs0, st_no _ _ _ _ (by decide +kernel) (by decide +kernel) (by decide +kernel) (by decide +kernel), _, rfl, x, A.Instance, dxi, _, .ref rk, rfl, hx1, L.c_Instance.cl, L.n_Instance_owner, lk_hit, sa, S, rk, xk, k, rfl, hS, ho, hXk, ?_⟩
            have hnm : nm.length ≤ 1000 := hw.2 k _ hk
            have hcl : (headS most nm).length ≤ 1000 := Nat.le_trans (headS_len _ _) hnm
            have l1 : (("<" : Str)).length = 1 := by decide +kernel
            have l2 : ((">" : Str)).length = 1 := by decide +kernel
            refine ⟨xk, A.Kin, dxk, _, .str nm, rfl, hk1, L.c_Kin.cl, L.n_Kin_name, lk_hit, ?_⟩
            refine ⟨_, rfl, _, rfl, a.f, A.Form, dx, _, _, rfl, ef, L.c_Form.cl, L.n_Form_most, fm_most _ _ _ _ _, _, _, rfl, rfl, _, rfl, nm, rfl, hz _ (by omega), _, _, rfl, rfl, hz _ (by rw [l1]; show 1 + (headS most nm).length ≤ _; omega), _, _, rfl, rfl, hz _ (by rw [Str.length_append, l1, l2]; show 1 + (headS most nm).length + 1 ≤ _; omega), ?_⟩
            have eq : plainS S most (.obj n) = ("<" : Str) ++ headS most nm ++ (">" : Str) := by
              unfold plainS nameOf
              simp only [hth, hk]
            rw [eq] at q
            exact q
          | _ => cases e
      | _ => cases e
    refine ⟨_, rfl, _, .ref A.Kin, _, .ref A.Kin, _, rfl, .own _, opt_ty L ht, opt_K L _, _, rfl, ite_or (fun e => ?_) fun e5 => ?_⟩
    · cases d with
      | obj n =>
        cases hth : S.things[n]? with
        | none =>
          have e : (S.things[n]?).any tK = true := e
          rw [hth] at e
          cases e
        | some t =>
          have e : (S.things[n]?).any tK = true := e
          rw [hth] at e
          have ht : OptTh P w A H tv S.things[n]? := ht
          rw [hth] at ht
          obtain ⟨x, m, rfl, ht⟩ := ht
          cases t with
          | kin nm par ms =>
            obtain ⟨dxi, vo, kvs, hx1, ho, _⟩ := id ht
            have hnm : nm.length ≤ 1000 := hw.2 n _ hth
            have hcl : (headS most nm).length ≤ 1000 := Nat.le_trans (headS_len _ _) hnm
            have l1 : (("<class " : Str)).length = 7 := by decide +kernel
            have l2 : ((">" : Str)).length = 1 := by decide +kernel
            refine ⟨_, rfl, x, A.Kin, dxi, _, .str nm, rfl, hx1, L.c_Kin.cl, L.n_Kin_name, lk_hit, ?_⟩
            refine ⟨_, rfl, a.f, A.Form, dx, _, _, rfl, ef, L.c_Form.cl, L.n_Form_most, fm_most _ _ _ _ _, _, _, rfl, rfl, _, rfl, nm, rfl, hz _ (by omega), _, _, rfl, rfl, hz _ (by rw [l1]; show 7 + (headS most nm).length ≤ _; omega), _, _, rfl, rfl, hz _ (by rw [Str.length_append, l1, l2]; show 7 + (headS most nm).length + 1 ≤ _; omega), ?_⟩
            have eq : plainS S most (.obj n) = ("<class " : Str) ++ headS most nm ++ (">" : Str) := by
              unfold plainS
              simp only [hth]
            rw [eq] at q
            exact q
          | _ => cases e
      | _ => cases e
    have eq : plainS S most d = "<function>" := by
      cases d with
      | obj n =>
        have e4 : (S.things[n]?).any tI = false := e4
        have e5 : (S.things[n]?).any tK = false := e5
        unfold plainS
        cases hth : S.things[n]? with
        | none => simp only [hth]
        | some t =>
          rw [hth] at e4 e5
          cases t with
          | inst o ns => cases e4
          | kin nm par ms => cases e5
          | _ => simp only [hth]
      | bi n => rfl
      | non => cases hv; cases e
      | bl b => cases e1
      | int b => cases e2
      | str b => cases e3
    rw [eq] at q
    exact q
end
end My
namespace My
open PySem L2 SX XT XS XE XD XL
open C8 (pss_cut tCut cutS_slice pe_gc)
def rowsT : Th → List (List Dv)
  | .parts ds => ds.map fun d => [d]
  | .table es => es.map fun e => [e.1, e.2]
  | _ => []
def Rws (A : Ads) (H : Hp) : List V → List (List Dv) → Prop
  | [], [] => True
  | v :: vs, r :: rs => (∃ q us, v = .ref q ∧ H q = some (.tup us) ∧ Hs A H us r) ∧ Rws A H vs rs
  | _, _ => False
section
variable {P : Program} {w : World} {K : PySem.W.Frag} {mg : Str → Option Value} {base : Heap} {A : Ads}
theorem Rws.imp {H H' : Hp} (k : Vk A H H') : ∀ {vs : List V} {rs : List (List Dv)}, Rws A H vs rs → Rws A H' vs rs
  | [], [], _ => trivial
  | _ :: _, _ :: _, ⟨⟨q, us, e, h1, h2⟩, r⟩ => ⟨⟨q, us, e, k.t _ _ h1, h2.imp k.v⟩, Rws.imp k r⟩
  | [], _ :: _, h => h.elim
  | _ :: _, [], h => h.elim
theorem Rws.len {H : Hp} : ∀ {vs : List V} {rs : List (List Dv)}, Rws A H vs rs → vs.length = rs.length
  | [], [], _ => rfl
  | _ :: _, _ :: _, h => by rw [List.length_cons, List.length_cons, Rws.len h.2]
  | [], _ :: _, h => h.elim
  | _ :: _, [], h => h.elim
theorem Rws.at {H : Hp} : ∀ {vs : List V} {rs : List (List Dv)} {i : Nat} {v : V}, Rws A H vs rs → vs[i]? = some v → ∃ r q us, rs[i]? = some r ∧ v = .ref q ∧ H q = some (.tup us) ∧ Hs A H us r
  | v :: _, r :: _, 0, _, ⟨⟨q, us, e, h1, h2⟩, _⟩, e' => by cases e'; exact ⟨r, q, us, rfl, e, h1, h2⟩
  | _ :: vs, _ :: rs, i + 1, v, h, e => by
    rw [List.getElem?_cons_succ] at e
    obtain ⟨r, h'⟩ := Rws.at h.2 e
    exact ⟨r, by rw [List.getElem?_cons_succ]; exact h'⟩
  | [], [], _, _, _, e => by cases e
  | [], _ :: _, _, _, h, _ => h.elim
  | _ :: _, [], _, _, h, _ => h.elim
theorem Rws.snoc {H : Hp} {q : Addr} {us : List V} {r : List Dv} : ∀ {vs : List V} {rs : List (List Dv)}, Rws A H vs rs → H q = some (.tup us) → Hs A H us r → Rws A H (vs ++ [.ref q]) (rs ++ [r])
  | [], [], _, h1, h2 => ⟨⟨q, us, rfl, h1, h2⟩, trivial⟩
  | _ :: _, _ :: _, h, h1, h2 => ⟨h.1, Rws.snoc h.2 h1 h2⟩
  | [], _ :: _, h, _, _ => h.elim
  | _ :: _, [], h, _, _ => h.elim
theorem ents_rws {H : Hp} : ∀ {es : List Ent} {ps : List (Dv × Dv)}, Ents A H es ps → Rws A H (es.map (·.2.2)) (ps.map fun e => [e.1, e.2])
  | [], [], _ => trivial
  | e :: _, p :: _, h => by
    obtain ⟨⟨hk, e1, q, v, e2, e3, e4⟩, hr⟩ := h
    exact ⟨⟨q, [e.1, v], e2, e3, by rw [e1]; exact key_has hk, e4, trivial⟩, ents_rws hr⟩
  | [], _ :: _, h => h.elim
  | _ :: _, [], h => h.elim
theorem vk_upd {H : Hp} {m : Addr} {u u' : HO} (hu : H m = some u) (n1 : ∀ C dx fs, u ≠ .ins C dx fs) (n2 : ∀ xs, u ≠ .tup xs) : Vk A H (upd H m u') := by
  have go : ∀ b w, H b = some w → w ≠ u → upd H m u' b = some w := fun b w e n => by
    rw [upd_ne fun z => by rw [z, hu] at e; exact n (Option.some.inj e).symm]
    exact e
  refine ⟨fun v d h => ?_, fun q xs e => go q _ e fun z => n2 _ z.symm⟩
  cases d with
  | obj n =>
    obtain ⟨b, dx, rfl, e⟩ := h
    exact ⟨b, dx, rfl, go b _ e fun z => n1 _ _ _ z.symm⟩
  | bi n =>
    obtain ⟨b, dx, rfl, e⟩ := h
    exact ⟨b, dx, rfl, go b _ e fun z => n1 _ _ _ z.symm⟩
  | _ => exact h
def spHeld (P : Program) (w : World) (A : Ads) : Sp := fun vs H Q _ => ∃ x m t, vs = [.ref x] ∧ ThAt P w A H x m t ∧ (tP t || tT t) = true ∧ (rowsT t).length ≤ 1000 ∧ ∀ H' l us, Same H H' → H l = none → H' l = some (.lst us) → Rws A H' us (rowsT t) → Q (.ref l) H'
theorem ok_held_by (L : Lib P K mg A) : FnOk P w K mg base CX0 2 L.held_by.f L.held_by.fd ["thing"] (spHeld P w A) := by
  have G_Table_pairs : FnOk P w K mg base CX0 1 L.Table_pairs.f L.Table_pairs.fd ["self"] (spTPairs P w A) := ok_Table_pairs L
  refine L.held_by.F.ok sc_held_by (fun vs H Q E h => ?_) (fun cdv A' outer s H vs Q E hr h => ?_)
  · obtain ⟨x, m, t, rfl, _⟩ := h
    rfl
  · obtain ⟨x, m, t, rfl, ht, hpt, hn, q⟩ := h
    refine ⟨_, (pss_cons (ps_if (pt_val (pe_callB call_isi (by rfl) L.z_isinstance (by decide +kernel) (pa_cons (pv 0) (pa_cons (pe_gc (v := .ref A.Table) (by rfl) ⟨_, L.c_Table.g, rfl⟩) pa_nil))))
        (pss_one (ps_ret (pe_meth0 (pv 0) L.c_Table.cl L.Table_pairs.m G_Table_pairs (hr.mono (by omega)) L.Table_pairs.b .nil pass0)))
        pss_nil)
      (pss_one (ps_ret (pe_lc (own := [("part", 1)]) (g := gName 1) (tt := tYes) (by rfl) sc_held_by.nd (pi_list (pe_fld (pv 0) rfl)) (blkOk_by (own := [("part", 1)]) (N := ["thing", "part"]) (sc := defScope (top 48)) (by decide +kernel)) (fun _ _ _ _ _ => (pg_name (i := 1) sc_held_by.nd rfl (.inl rfl))) (fun _ _ _ _ _ => pts_nil) (fun _ _ _ _ _ => (pe_tup (pa_cons (pv 1) pa_nil))))))), ?_⟩
    refine ⟨_, rfl, _, .ref A.Table, _, .ref A.Table, _, rfl, .own _, th_ty L ht, kit_T L t, _, rfl, ite_or (fun e => ?_) fun e => ?_⟩
    · cases t with
      | table es =>
        obtain ⟨ents, hT, hE, hnd, hle⟩ := id ht
        obtain ⟨⟨dx, hx1⟩, hd, _⟩ := id hT
        exact ⟨_, rfl, x, dx, _, rfl, hx1, tab_none (by decide +kernel), x, m, ents, rfl, hT, fun H' l s' nl hl => q H' l _ s' nl hl (ents_rws (hE.imp (fun _ _ h => h.sv (Same.sv s')) fun q xs e => s' _ _ e))⟩
      | _ => cases e
    · cases t with
      | parts ds =>
        obtain ⟨dx, us, e1, e2, e3⟩ := id ht
        have hul := e3.len
        have hn' : ds.length ≤ 1000 := by have : (rowsT (.parts ds)).length = ds.length := List.length_map _; omega
        refine ⟨_, rfl, x, A.Parts, dx, _, .ref m, rfl, e1, L.c_Parts.cl, L.n_Parts_held, lk_hit, m, rfl, ⟨_, SqL.of e2⟩, fun D nD => ?_⟩
        refine lc_list (K := K) (a := m) (xs := us) (fun i H' => Same H H' ∧ ∃ vs, H' D = some (.lst vs) ∧ Rws A H' vs (rowsT (.parts (ds.take i))) ∧ vs.length = i) ⟨same_upd nD, [], upd_same, trivial, rfl⟩ (fun i H' _ h => SqL.of (h.1 _ _ e2)) ?_ ?_
        · rintro i v H1 hv ⟨s1, vs, h1, h2, h3⟩
          have hi : i < us.length := (List.getElem?_eq_some_iff.mp hv).1
          obtain ⟨d, hd⟩ : ∃ d, ds[i]? = some d := ⟨_, List.getElem?_eq_getElem (by omega)⟩
          obtain ⟨v', hv', hvd⟩ := e3.at hd
          rw [hv] at hv'
          cases hv'
          refine ⟨rfl, _, rfl, by show 1 ≤ sizeLine; decide, fun T nT => ⟨vs, ?_, ?_, ?_⟩⟩
          · rw [upd_ne (ne_of_none h1 nT)]; exact h1
          · exact Nat.lt_of_lt_of_le (m := 1001) (by omega) (by decide)
          · have s2 : Same H1 (upd H1 T (.tup [v])) := same_upd nT
            have nTD : T ≠ D := (ne_of_none h1 nT).symm
            have vk : Vk A (upd H1 T (.tup [v])) (upd (upd H1 T (.tup [v])) D (.lst (vs ++ [.ref T]))) := vk_upd (u := .lst vs) (by rw [upd_ne nTD.symm]; exact h1) nofun nofun
            refine ⟨fun b u e => ?_, vs ++ [.ref T], upd_same, ?_, by rw [List.length_append, h3]; rfl⟩
            · rw [upd_ne (ne_of_none e nD)]; exact s2 _ _ (s1 _ _ e)
            · have : rowsT (.parts (ds.take (i + 1))) = rowsT (.parts (ds.take i)) ++ [[d]] := by
                show (ds.take (i + 1)).map _ = (ds.take i).map _ ++ _
                rw [List.take_add_one, hd, List.map_append]
                rfl
              rw [this]
              exact Rws.snoc (h2.imp ((Sv.vk (Same.sv s2)).trans vk)) (by rw [upd_ne nTD]; exact upd_same) (show Hs A _ [v] [d] from ⟨vk.v _ _ ((hvd.sv (Same.sv s1)).sv (Same.sv s2)), trivial⟩)
        · rintro H1 ⟨s1, vs, h1, h2, h3⟩
          rw [hul, List.take_length] at h2
          exact q H1 D vs s1 nD h1 h2
      | table es => cases e
      | _ => cases hpt
end
end My
namespace My
open PySem L2 SX XT XS XE XD XL
def opn : Th → Str
  | .table _ => "{"
  | _ => "["
def cls' : Th → Str
  | .table _ => "}"
  | _ => "]"
theorem opn_len (t : Th) : (opn t).length = 1 := by
  cases t with
  | table es => show (("{" : Str)).length = 1; decide +kernel
  | _ => show (("[" : Str)).length = 1; decide +kernel
theorem cls_len (t : Th) : (cls' t).length = 1 := by
  cases t with
  | table es => show (("}" : Str)).length = 1; decide +kernel
  | _ => show (("]" : Str)).length = 1; decide +kernel
def isC (t : Th) : Bool := tP t || tT t
def numD : Dv → Nat
  | .obj n => n
  | _ => 0
def tailW (w : Dv → List Str → List Str) : List Dv → List Str → List Str
  | [], ps => ps
  | d :: r, ps => tailW w r (w d (ps ++ [(": " : Str)]))
def rowW (w : Dv → List Str → List Str) : List Dv → List Str → List Str
  | [], ps => ps
  | d :: r, ps => tailW w r (w d ps)
def heldW (m : Nat) (w : Dv → List Str → List Str) : Str → List (List Dv) → List Str → List Str
  | _, [], ps => ps
  | g, r :: rs, ps => if m < szP ps then ps else heldW m w ", " rs (rowW w r (ps ++ [g]))
/-- the pieces behind a value was written -/
def wr (S : St) (m : Nat) : Nat → List Nat → Dv → List Str → List Str
  | 0, _, _, ps => ps
  | n + 1, ar, d, ps => match thO S d with
    | some t => if isC t = true then (if numD d ∈ ar ∨ 10 ≤ ar.length then ps ++ [opn t] ++ [("..." : Str)] else heldW m (wr S m n (ar ++ [numD d])) "" (rowsT t) (ps ++ [opn t])) ++ [cls' t] else ps ++ [plainS S m d]
    | none => ps ++ [plainS S m d]
/-- bounds of pieces: few, and not long -/
structure Few (m k : Nat) (ps : List Str) : Prop where
  c : ps.length ≤ 2 * szP ps
  z : szP ps ≤ m + k
def okPl (S : St) (m : Nat) (d : Dv) : Prop := 1 ≤ (plainS S m d).length ∧ (plainS S m d).length ≤ 2002
def cW : Nat → Nat := fun n => 2100 * n
theorem Few.add {m k : Nat} {ps : List Str} {t : Str} (h : Few m k ps) (h1 : 1 ≤ t.length) : Few m (k + t.length) (ps ++ [t]) := by
  refine ⟨?_, ?_⟩
  · rw [List.length_append, szP_snoc, List.length_singleton]
    have := h.c
    omega
  · rw [szP_snoc]
    have := h.z
    omega
theorem Few.mono {m k k' : Nat} {ps : List Str} (h : Few m k ps) (l : k ≤ k') : Few m k' ps := ⟨h.c, Nat.le_trans h.z (by omega)⟩
/-- all values of the store are told shortly -/
def PlS (S : St) (m : Nat) : Prop := ∀ d, okW S d → okPl S m d
/-- rows: one value, or a key and a value -/
def okRow (S : St) (r : List Dv) : Prop := (∃ d, r = [d] ∧ okW S d) ∨ ∃ k d, r = [k, d] ∧ thO S k = none ∧ okW S k ∧ okW S d
theorem rows_ok {S : St} {t : Th} (h : okT S t) : ∀ r ∈ rowsT t, okRow S r := by
  intro r hr
  cases t with
  | parts ds =>
    obtain ⟨d, hd, rfl⟩ := List.mem_map.mp hr
    exact .inl ⟨d, rfl, h.2 d hd⟩
  | table es =>
    obtain ⟨e, he, rfl⟩ := List.mem_map.mp hr
    obtain ⟨h1, h2, h3⟩ := h e he
    refine .inr ⟨e.1, e.2, rfl, ?_, h2, h3⟩
    cases hd : e.1 with
    | obj n => rw [hd] at h1; cases h1
    | _ => rfl
  | _ => cases hr
theorem wr_few {S : St} {m : Nat} (hw : WfS S) (hp : PlS S m) : ∀ (n : Nat) (ar : List Nat) (d : Dv) (ps : List Str), okW S d → Few m 2006 ps → ps.length ≤ 2 * szP ps → szP (wr S m n ar d ps) ≤ max (szP ps) m + cW n ∧ (wr S m n ar d ps).length ≤ 2 * szP (wr S m n ar d ps) := by
  intro n
  induction n with
  | zero => intro ar d ps _ h hc; exact ⟨by unfold wr cW; omega, hc⟩
  | succ n ih =>
    intro ar d ps ok h hc
    have hpl := hp d ok
    have plain : szP (ps ++ [plainS S m d]) ≤ max (szP ps) m + cW (n + 1) ∧ (ps ++ [plainS S m d]).length ≤ 2 * szP (ps ++ [plainS S m d]) := by
      rw [szP_snoc, List.length_append, List.length_singleton]
      have := hpl.1
      have := hpl.2
      unfold cW
      omega
    unfold wr
    cases ht : thO S d with
    | none => exact plain
    | some t =>
      dsimp only
      by_cases hC : isC t = true
      · rw [if_pos hC]
        have lo : (opn t).length = 1 := opn_len t
        have lc : (cls' t).length = 1 := cls_len t
        have l3 : (("..." : Str)).length = 3 := by decide +kernel
        by_cases hs : numD d ∈ ar ∨ 10 ≤ ar.length
        · rw [if_pos hs]
          simp only [szP_snoc, List.length_append, List.length_singleton]
          unfold cW
          omega
        · rw [if_neg hs]
          have okt : okT S t := by
            cases d with
            | obj k => exact hw.2 k t ht
            | _ => cases ht
          have key : ∀ (rs : List (List Dv)) (g : Str) (qs : List Str), (∀ r ∈ rs, okRow S r) → g.length ≤ 2 → (g.length = 0 → qs.length + 1 ≤ 2 * szP qs) → qs.length ≤ 2 * szP qs → szP qs ≤ max (szP ps + 1) m + 2010 + cW n →
              szP (heldW m (wr S m n (ar ++ [numD d])) g rs qs) ≤ max (szP ps + 1) m + 2010 + cW n ∧ (heldW m (wr S m n (ar ++ [numD d])) g rs qs).length ≤ 2 * szP (heldW m (wr S m n (ar ++ [numD d])) g rs qs) := by
            intro rs
            induction rs with
            | nil => intro g qs _ _ _ h1 h2; exact ⟨h2, h1⟩
            | cons r rs ih2 =>
              intro g qs hr hg hg0 h1 h2
              unfold heldW
              by_cases he : m < szP qs
              · rw [if_pos he]; exact ⟨h2, h1⟩
              · rw [if_neg he]
                have hq1 : (qs ++ [g]).length ≤ 2 * szP (qs ++ [g]) := by
                  rw [List.length_append, szP_snoc, List.length_singleton]
                  by_cases g0 : g.length = 0
                  · have := hg0 g0; omega
                  · omega
                have hq2 : szP (qs ++ [g]) ≤ m + 2 := by rw [szP_snoc]; omega
                have lc2 : ((", " : Str)).length = 2 := by decide +kernel
                have row : szP (rowW (wr S m n (ar ++ [numD d])) r (qs ++ [g])) ≤ m + 2010 + cW n ∧ (rowW (wr S m n (ar ++ [numD d])) r (qs ++ [g])).length ≤ 2 * szP (rowW (wr S m n (ar ++ [numD d])) r (qs ++ [g])) := by
                  rcases hr r (by simp) with ⟨d', rfl, ok'⟩ | ⟨k, d', rfl, hk, okk, ok'⟩
                  · obtain ⟨a1, a2⟩ := ih (ar ++ [numD d]) d' (qs ++ [g]) ok' ⟨hq1, by omega⟩ hq1
                    refine ⟨?_, a2⟩
                    show szP (wr S m n (ar ++ [numD d]) d' (qs ++ [g])) ≤ _
                    omega
                  · have lk : ((": " : Str)).length = 2 := by decide +kernel
                    have hkp := hp k okk
                    cases n with
                    | zero =>
                      show szP (qs ++ [g] ++ [(": " : Str)]) ≤ _ ∧ (qs ++ [g] ++ [(": " : Str)]).length ≤ 2 * szP (qs ++ [g] ++ [(": " : Str)])
                      rw [szP_snoc, List.length_append, List.length_singleton]
                      omega
                    | succ n' =>
                      have e1 : wr S m (n' + 1) (ar ++ [numD d]) k (qs ++ [g]) = qs ++ [g] ++ [plainS S m k] := by
                        conv => lhs; unfold wr
                        rw [hk]
                      have z1 := hkp.1
                      have z2 := hkp.2
                      have hq3 : szP (qs ++ [g] ++ [plainS S m k] ++ [(": " : Str)]) ≤ m + 2006 := by rw [szP_snoc, szP_snoc]; omega
                      have hq4 : (qs ++ [g] ++ [plainS S m k] ++ [(": " : Str)]).length ≤ 2 * szP (qs ++ [g] ++ [plainS S m k] ++ [(": " : Str)]) := by
                        rw [szP_snoc, szP_snoc, List.length_append, List.length_append, List.length_singleton, List.length_singleton]
                        omega
                      obtain ⟨a1, a2⟩ := ih (ar ++ [numD d]) d' (qs ++ [g] ++ [plainS S m k] ++ [(": " : Str)]) ok' ⟨hq4, hq3⟩ hq4
                      have e2 : rowW (wr S m (n' + 1) (ar ++ [numD d])) [k, d'] (qs ++ [g]) = wr S m (n' + 1) (ar ++ [numD d]) d' (qs ++ [g] ++ [plainS S m k] ++ [(": " : Str)]) := by
                        show wr S m (n' + 1) (ar ++ [numD d]) d' (wr S m (n' + 1) (ar ++ [numD d]) k (qs ++ [g]) ++ [(": " : Str)]) = _
                        rw [e1]
                      rw [e2]
                      exact ⟨by omega, a2⟩
                exact ih2 ", " _ (fun r h => hr r (List.mem_cons_of_mem _ h)) (by omega) (fun z => by omega) row.2 (by omega)
          obtain ⟨b1, b2⟩ := key (rowsT t) "" (ps ++ [opn t]) (rows_ok okt) (by decide +kernel) (fun _ => by rw [List.length_append, szP_snoc, List.length_singleton]; omega) (by rw [List.length_append, szP_snoc, List.length_singleton]; omega) (by rw [szP_snoc]; omega)
          rw [szP_snoc, List.length_append, List.length_singleton]
          have : cW (n + 1) = cW n + 2100 := by unfold cW; omega
          omega
      · rw [if_neg hC]
        exact plain
end My
namespace My
open PySem L2 SX XT XS XE XD XL
open C8 (pss_cut tCut cutS_slice pe_gc)
section
variable {P : Program} {w : World} {K : PySem.W.Frag} {mg : Str → Option Value} {base : Heap} {A : Ads}
/-- a form beside a store -/
structure FS (P : Program) (w : World) (A : Ads) (H : Hp) (a : Fa) (sa : Sa) (S : St) (m : Nat) (ps : List Str) (ar : List Nat) : Prop where
  F : FormAt A H a sa.s m ps ar
  sm : SM P w A H sa S
  nf : ¬ sa.own a.f
  np : ¬ sa.own a.p
  nr : ¬ sa.own a.r
  wf : WfS S
  pl : PlS S m
  hm : m ≤ 2000
theorem Fk.vk (L : Lib P K mg A) {H H' : Hp} {a : Fa} {sa : Sa} {S : St} {m : Nat} {ps : List Str} {ar : List Nat} (h : FS P w A H a sa S m ps ar) (k : Fk a H H') : Vk A H H' := by
  obtain ⟨dx, e0⟩ := h.F.f
  have go : ∀ b u, H b = some u → ((∃ dx fs, u = .ins A.Ref dx fs) ∨ (∃ dx fs, u = .ins A.Builtin dx fs) ∨ ∃ xs, u = .tup xs) → H' b = some u := fun b u e hu => by
    refine k b u e (fun z => ?_) (fun z => ?_) (fun z => ?_)
    · rw [z, e0] at e
      cases e
      rcases hu with ⟨_, _, q⟩ | ⟨_, _, q⟩ | ⟨_, q⟩
      · injection q with q1 q2 q3; exact ne_cls L.k_Form_Ref q1
      · injection q with q1 q2 q3; exact ne_cls L.k_Form_Builtin q1
      · cases q
    · rw [z, h.F.p] at e
      cases e
      rcases hu with ⟨_, _, q⟩ | ⟨_, _, q⟩ | ⟨_, q⟩ <;> cases q
    · rw [z, h.F.r] at e
      cases e
      rcases hu with ⟨_, _, q⟩ | ⟨_, _, q⟩ | ⟨_, q⟩ <;> cases q
  refine ⟨fun v d h => ?_, fun q xs e => go q _ e (.inr (.inr ⟨_, rfl⟩))⟩
  cases d with
  | obj n =>
    obtain ⟨b, dx, rfl, e⟩ := h
    exact ⟨b, dx, rfl, go b _ e (.inl ⟨_, _, rfl⟩)⟩
  | bi n =>
    obtain ⟨b, dx, rfl, e⟩ := h
    exact ⟨b, dx, rfl, go b _ e (.inr (.inl ⟨_, _, rfl⟩))⟩
  | _ => exact h
theorem FS.step (L : Lib P K mg A) {H H' : Hp} {a : Fa} {sa : Sa} {S : St} {m : Nat} {ps ps' : List Str} {ar ar' : List Nat} (h : FS P w A H a sa S m ps ar) (k : Fk a H H') (F : FormAt A H' a sa.s m ps' ar') : FS P w A H' a sa S m ps' ar' :=
  ⟨F, h.sm.imp (k.vk L h) fun b u o e => k b u e (fun z => h.nf (z ▸ o)) (fun z => h.np (z ▸ o)) (fun z => h.nr (z ▸ o)), h.nf, h.np, h.nr, h.wf, h.pl, h.hm⟩
theorem FS.same (L : Lib P K mg A) {H H' : Hp} {a : Fa} {sa : Sa} {S : St} {m : Nat} {ps : List Str} {ar : List Nat} (h : FS P w A H a sa S m ps ar) (s : Same H H') : FS P w A H' a sa S m ps ar := h.step L (Fk.same s) (h.F.same s)
theorem wr_plain {S : St} {m n : Nat} {ar : List Nat} {d : Dv} {ps : List Str} (h : thO S d = none) (hn : 1 ≤ n) : wr S m n ar d ps = ps ++ [plainS S m d] := by
  obtain ⟨n', rfl⟩ : ∃ n', n = n' + 1 := ⟨n - 1, by omega⟩
  conv => lhs; unfold wr
  rw [h]
theorem row_few {S : St} {m n : Nat} (hw : WfS S) (hp : PlS S m) (hn : 1 ≤ n) {ar : List Nat} {r : List Dv} {q : List Str} (hr : okRow S r) (h1 : q.length ≤ 2 * szP q) (h2 : szP q ≤ m + 2) :
    szP (rowW (wr S m n ar) r q) ≤ m + 2010 + cW n ∧ (rowW (wr S m n ar) r q).length ≤ 2 * szP (rowW (wr S m n ar) r q) := by
  rcases hr with ⟨d', rfl, ok'⟩ | ⟨k, d', rfl, hk, okk, ok'⟩
  · obtain ⟨a1, a2⟩ := wr_few hw hp n ar d' q ok' ⟨h1, by omega⟩ h1
    refine ⟨?_, a2⟩
    show szP (wr S m n ar d' q) ≤ _
    omega
  · have lk : ((": " : Str)).length = 2 := by decide +kernel
    have hkp := hp k okk
    have z1 := hkp.1
    have z2 := hkp.2
    have hq3 : szP (q ++ [plainS S m k] ++ [(": " : Str)]) ≤ m + 2006 := by rw [szP_snoc, szP_snoc]; omega
    have hq4 : (q ++ [plainS S m k] ++ [(": " : Str)]).length ≤ 2 * szP (q ++ [plainS S m k] ++ [(": " : Str)]) := by
      rw [szP_snoc, szP_snoc, List.length_append, List.length_append, List.length_singleton, List.length_singleton]
      omega
    obtain ⟨a1, a2⟩ := wr_few hw hp n ar d' (q ++ [plainS S m k] ++ [(": " : Str)]) ok' ⟨hq4, hq3⟩ hq4
    have e2 : rowW (wr S m n ar) [k, d'] q = wr S m n ar d' (q ++ [plainS S m k] ++ [(": " : Str)]) := by
      show wr S m n ar d' (wr S m n ar k q ++ [(": " : Str)]) = _
      rw [wr_plain hk hn]
    rw [e2]
    exact ⟨by omega, a2⟩
theorem heldW_stop {m : Nat} {w : Dv → List Str → List Str} {g : Str} {r : List Dv} {rs : List (List Dv)} {p : List Str} (h : m < szP p) : heldW m w g (r :: rs) p = p := by
  unfold heldW
  rw [if_pos h]
theorem heldW_go {m : Nat} {w : Dv → List Str → List Str} {g : Str} {r : List Dv} {rs : List (List Dv)} {p : List Str} (h : ¬ m < szP p) : heldW m w g (r :: rs) p = heldW m w ", " rs (rowW w r (p ++ [g])) := by
  conv => lhs; unfold heldW
  rw [if_neg h]
/-- a row half written -/
def zrow (w : Dv → List Str → List Str) (r : List Dv) (q : List Str) : Nat → List Str
  | 0 => q
  | 1 => match r with
    | d :: _ => w d q
    | [] => q
  | _ + 2 => match r with
    | d :: d2 :: _ => w d2 (w d q ++ [(": " : Str)])
    | _ => q
def spWr (P : Program) (w : World) (A : Ads) (n : Nat) : Sp := fun vs H Q _ => ∃ (a : Fa) (sa : Sa) (S : St) (m : Nat) (ps : List Str) (ar : List Nat) (v : V) (d : Dv), vs = [.ref a.f, v] ∧ FS P w A H a sa S m ps ar ∧ Has A H v d ∧ okW S d ∧ ar.length + n = 11 ∧ 1 ≤ n ∧ ps.length ≤ 2 * szP ps ∧ szP ps ≤ m + 2006 ∧
  ∀ H', Fk a H H' → FormAt A H' a sa.s m (wr S m n ar d ps) ar → Q .non H'
def spHe (P : Program) (w : World) (A : Ads) (n : Nat) : Sp := fun vs H Q _ => ∃ (a : Fa) (sa : Sa) (S : St) (m : Nat) (ps : List Str) (ar : List Nat) (x mm : Addr) (t : Th), vs = [.ref a.f, .ref x] ∧ FS P w A H a sa S m ps ar ∧ ThAt P w A H x mm t ∧ isC t = true ∧ okT S t ∧ (rowsT t).length ≤ 1000 ∧ ar.length + n = 11 ∧ 1 ≤ n ∧ ps.length + 1 ≤ 2 * szP ps ∧ szP ps ≤ m + 2007 ∧
  ∀ H', Fk a H H' → FormAt A H' a sa.s m (heldW m (wr S m n ar) "" (rowsT t) ps) ar → Q .non H'
theorem ok_write_held (L : Lib P K mg A) {n : Nat} (G_write : FnOk P w K mg base CX0 (3 * n + 3) L.write.f L.write.fd ["form", "value"] (spWr P w A n)) : FnOk P w K mg base CX0 (3 * n + 4) L.write_held.f L.write_held.fd ["form", "thing"] (spHe P w A n) := by
  have G_held_by : FnOk P w K mg base CX0 2 L.held_by.f L.held_by.fd ["thing"] (spHeld P w A) := ok_held_by L
  have G_Form_add : FnOk P w K mg base CX0 1 L.Form_add.f L.Form_add.fd ["self", "text"] (spFAdd A) := ok_Form_add L
  have G_Form_is_enough : FnOk P w K mg base CX0 1 L.Form_is_enough.f L.Form_is_enough.fd ["self"] (spFEn A) := ok_Form_is_enough L
  refine L.write_held.F.ok sc_write_held (fun vs H Q E h => ?_) (fun cdv A' outer s H vs Q E hr h => ?_)
  · obtain ⟨a, sa, S, m, ps, ar, x, mm, t, rfl, _⟩ := h
    rfl
  · obtain ⟨a, sa, S, m, ps, ar, x, mm, t, rfl, hF, ht, hC, okt, hlen, har, hn, hc, hz, q⟩ := h
    refine ⟨_, (pss_cons (ps_set (i := 2) sc_write_held.nd rfl (.inl rfl) pe_str)
      (pss_one (ps_for PassesOwn.never rfl (pi_list (pe_call G_held_by (hr.mono (by omega)) (by rfl) L.held_by.g L.held_by.F.kp L.held_by.b .nil pass0 (pa_cons (pv 1) pa_nil))) (pg_name (i := 3) sc_write_held.nd rfl (.inl rfl))
        (pss_cons (ps_if (pt_val (pe_meth0 (pv 0) L.c_Form.cl L.Form_is_enough.m G_Form_is_enough (hr.mono (by omega)) L.Form_is_enough.b .nil pass0))
        (pss_one ps_retN)
        pss_nil)
      (pss_cons (ps_expr (pe_meth (pv 0) L.c_Form.cl L.Form_add.m G_Form_add (hr.mono (by omega)) L.Form_add.b .nil pass0 (pa_cons (pv 2) pa_nil)))
      (pss_cons (ps_set (i := 2) sc_write_held.nd rfl (.inl rfl) pe_str)
      (pss_one (ps_for PassesOwn.never rfl (pi_enumT (by rfl) L.z_enumerate (pa_cons (pv 3) pa_nil)) (pg_tup (by rfl) (pgs_cons (pg_name (i := 4) sc_write_held.nd rfl (.inl rfl)) (pgs_cons (pg_name (i := 5) sc_write_held.nd rfl (.inl rfl)) pgs_nil)))
        (pss_cons (ps_if (pt_cmpR op_gt (pv 4) pe_int (nomark _))
        (pss_one (ps_expr (pe_meth (pv 0) L.c_Form.cl L.Form_add.m G_Form_add (hr.mono (by omega)) L.Form_add.b .nil pass0 (pa_cons pe_str pa_nil))))
        pss_nil)
      (pss_one (ps_expr (pe_call G_write (hr.mono (by omega)) (by rfl) L.write.g L.write.F.kp L.write.b .nil pass0 (pa_cons (pv 0) (pa_cons (pv 5) pa_nil)))))))))))))), ?_⟩
    refine ⟨_, rfl, x, mm, t, rfl, ht, hC, hlen, fun H1 l rows s1 nl hl hrw => ?_⟩
    have F1 := hF.same L s1
    have nlf : l ≠ a.f := fun z => by obtain ⟨dx, e⟩ := hF.F.f; rw [← z, nl] at e; cases e
    have nlp : l ≠ a.p := fun z => by have e := hF.F.p; rw [← z, nl] at e; cases e
    have nlr : l ≠ a.r := fun z => by have e := hF.F.r; rw [← z, nl] at e; cases e
    have hrl := hrw.len
    refine ⟨l, rfl, ⟨_, SqL.of hl⟩, for_list (K := K) (a := l) (xs := rows) (fun i σ H' => ∃ (g : Str) (p : List Str) (y3 y4 y5 : Option V), σ = [some (.ref a.f), some (.ref x), some (.str g), y3, y4, y5] ∧ Fk a H H' ∧ FS P w A H' a sa S m p ar ∧ H' l = some (.lst rows) ∧ Rws A H' rows (rowsT t) ∧
      heldW m (wr S m n ar) g ((rowsT t).drop i) p = heldW m (wr S m n ar) "" (rowsT t) ps ∧ g.length ≤ 2 ∧ (g.length = 0 → p.length + 1 ≤ 2 * szP p) ∧ p.length ≤ 2 * szP p ∧ szP p ≤ m + 2010 + cW n)
      ⟨"", ps, none, none, none, rfl, Fk.same s1, F1, hl, hrw, rfl, by decide +kernel, fun _ => hc, by omega, by omega⟩ (fun i σ H' _ h => by obtain ⟨_, _, _, _, _, _, _, _, h, _⟩ := h; exact SqL.of h) ?_ ?_⟩
    · rintro i v σ H2 hv ⟨g, p, y3, y4, y5, rfl, k2, F2, hl2, hr2, he, hg, hg0, hp1, hp2⟩
      obtain ⟨r, q1, us, hri, rfl, hq1, hus⟩ := hr2.at hv
      obtain ⟨dx2, ef2⟩ := F2.F.f
      have hil := (List.getElem?_eq_some_iff.mp hri).1
      have ed : (rowsT t).drop i = r :: (rowsT t).drop (i + 1) := by
        rw [List.drop_eq_getElem_cons hil]
        rw [(List.getElem?_eq_some_iff.mp hri).2]
      have hrow := rows_ok okt r (List.mem_of_getElem? hri)
      have hnl : cW n ≤ 2100 * 11 := by unfold cW; omega
      have hm := F2.hm
      have noF : ∀ nm : Str, (nm == ("store" : Str)) = false → (nm == ("most" : Str)) = false → (nm == ("pieces" : Str)) = false → (nm == ("size" : Str)) = false → (nm == ("around" : Str)) = false → (formF sa.s a.p a.r m (szP p)).lookup nm = none := fun nm => fm_no _ _ _ _ _
      refine ⟨_, rfl, a.f, dx2, _, rfl, ef2, fm_no _ _ _ _ _ (by decide +kernel) (by decide +kernel) (by decide +kernel) (by decide +kernel) (by decide +kernel), a, sa.s, m, p, ar, rfl, F2.F, _, rfl, ite_or (fun e => ?_) fun e => ?_⟩
      · have hlt : m < szP p := of_decide_eq_true e
        rw [ed, heldW_stop hlt] at he
        refine q H2 k2 ?_
        rw [← he]
        exact F2.F
      have hlt : ¬ m < szP p := of_decide_eq_false e
      rw [ed] at he
      have he' : heldW m (wr S m n ar) ", " ((rowsT t).drop (i + 1)) (rowW (wr S m n ar) r (p ++ [g])) = heldW m (wr S m n ar) "" (rowsT t) ps := by
        rw [← he, heldW_go hlt]
      refine ⟨_, rfl, a.f, dx2, _, rfl, ef2, fm_no _ _ _ _ _ (by decide +kernel) (by decide +kernel) (by decide +kernel) (by decide +kernel) (by decide +kernel), _, rfl, a, sa.s, m, p, ar, g, rfl, F2.F, by omega, by omega, fun H3 k3 F3' => ?_⟩
      have F3 := F2.step L k3 F3'
      have vk3 := k3.vk L F2
      have hl3 := k3 _ _ hl2 nlf nlp nlr
      have hq3 := vk3.t _ _ hq1
      have hus3 := hus.imp vk3.v
      have hr3 := hr2.imp vk3
      have hul := hus.len
      have hq1b : (p ++ [g]).length ≤ 2 * szP (p ++ [g]) := by
        rw [List.length_append, szP_snoc, List.length_singleton]
        by_cases g0 : g.length = 0
        · have := hg0 g0; omega
        · omega
      have hq2b : szP (p ++ [g]) ≤ m + 2 := by rw [szP_snoc]; omega
      obtain ⟨rf1, rf2⟩ := row_few (ar := ar) F2.wf F2.pl hn hrow hq1b hq2b
      have lcm : ((", " : Str)).length = 2 := by decide +kernel
      have lkm : ((": " : Str)).length = 2 := by decide +kernel
      refine ⟨_, rfl, q1, us, rfl, SqT.of hq3, for_it (walk_enumT (xs := us)) (fun j σ H' => ∃ y4 y5 : Option V, σ = [some (.ref a.f), some (.ref x), some (.str ", "), some (.ref q1), y4, y5] ∧ Fk a H H' ∧ FS P w A H' a sa S m (zrow (wr S m n ar) r (p ++ [g]) j) ar ∧ H' l = some (.lst rows) ∧ Rws A H' rows (rowsT t) ∧ H' q1 = some (.tup us) ∧ Hs A H' us r)
        ⟨y4, y5, rfl, k2.trans k3, F3, hl3, hr3, hq3, hus3⟩ (fun j σ H' _ h => by obtain ⟨_, _, _, _, _, _, _, h, _⟩ := h; exact SqT.of h) ?_ ?_⟩
      · rintro j vx σ H4 H5 hj ⟨y4', y5', rfl, k4, F4, hl4, hr4, hq4, hus4⟩ ⟨T, xa, xb, rfl, nT, rfl, exa, exb⟩
        cases exa
        have s5 := same_upd (o := .tup [.int (j : Nat), xb]) nT
        have F5 := F4.same L s5
        have k5 : Fk a H _ := k4.trans (Fk.same s5)
        obtain ⟨d, hd⟩ : ∃ d, r[j]? = some d := ⟨_, List.getElem?_eq_getElem (by omega)⟩
        obtain ⟨u, hu, hud⟩ := hus4.at hd
        have hxb : us[j]? = some xb := exb
        rw [hxb] at hu
        cases hu
        have vk5 : Vk A H4 (upd H4 T (.tup [.int (j : Nat), xb])) := Sv.vk (Same.sv s5)
        have fin : ∀ (qq : List Str) (H6 : Hp), Fk a H H6 → Vk A (upd H4 T (.tup [.int (j : Nat), xb])) H6 → FS P w A H6 a sa S m qq ar → H6 l = some (.lst rows) → okW S d → qq.length ≤ 2 * szP qq → szP qq ≤ m + 2006 → wr S m n ar d qq = zrow (wr S m n ar) r (p ++ [g]) (j + 1) →
            spWr P w A n [.ref a.f, xb] H6 (fun _ H' => ∃ y4 y5 : Option V, [some (.ref a.f), some (.ref x), some (.str ", "), some (.ref q1), some (.int (j : Nat)), some xb] = [some (.ref a.f), some (.ref x), some (.str ", "), some (.ref q1), y4, y5] ∧ Fk a H H' ∧ FS P w A H' a sa S m (zrow (wr S m n ar) r (p ++ [g]) (j + 1)) ar ∧ H' l = some (.lst rows) ∧ Rws A H' rows (rowsT t) ∧ H' q1 = some (.tup us) ∧ Hs A H' us r) E0 :=
          fun qq H6 k6 vk6 F6 hl6 okd b1 b2 ew => ⟨a, sa, S, m, qq, ar, xb, d, rfl, F6, vk6.v _ _ (vk5.v _ _ hud), okd, har, hn, b1, b2, fun H7 k7 F7 => by
            rw [ew] at F7
            have vk7 := k7.vk L F6
            exact ⟨_, _, rfl, k6.trans k7, F6.step L k7 F7, k7 _ _ hl6 nlf nlp nlr, ((hr4.imp vk5).imp vk6).imp vk7, vk7.t _ _ (vk6.t _ _ (vk5.t _ _ hq4)), ((hus4.imp vk5.v).imp vk6.v).imp vk7.v⟩⟩
        refine ⟨T, _, rfl, SqT.of upd_same, rfl, _, _, rfl, _, _, rfl, rfl, ?_⟩
        refine ⟨_, rfl, _, _, rfl, rfl, _, rfl, ite_or (fun e => ?_) fun e => ?_⟩
        · have hj0 : 0 < j := by
            have : (0 : Int) < (j : Int) := of_decide_eq_true e
            omega
          rcases hrow with ⟨d', rfl, _⟩ | ⟨k, d', rfl, hk, okk, okd⟩
          · exact absurd (show us.length = 1 from hul) (by omega)
          · have hj1 : j = 1 := by
              have : us.length = 2 := hul
              omega
            subst hj1
            cases hd
            obtain ⟨dx5, ef5⟩ := F5.F.f
            have hkp := F2.pl k okk
            have z1 := hkp.1
            have z2 := hkp.2
            have ez1 : zrow (wr S m n ar) [k, d] (p ++ [g]) 1 = p ++ [g] ++ [plainS S m k] := wr_plain hk hn
            rw [ez1] at F5 ef5
            have lq : (p ++ [g] ++ [plainS S m k]).length < 1000000 := by
              have : (p ++ [g] ++ [plainS S m k]).length ≤ 2 * szP (p ++ [g] ++ [plainS S m k]) := by
                rw [szP_snoc, List.length_append, List.length_singleton]; omega
              rw [szP_snoc] at this
              omega
            refine ⟨_, rfl, a.f, dx5, _, rfl, ef5, fm_no _ _ _ _ _ (by decide +kernel) (by decide +kernel) (by decide +kernel) (by decide +kernel) (by decide +kernel), a, sa.s, m, p ++ [g] ++ [plainS S m k], ar, ": ", rfl, F5.F, lq, by rw [lkm]; omega, fun H6 k6 F6' => ?_⟩
            have F6 := F5.step L k6 F6'
            refine ⟨_, rfl, _, rfl, fin _ H6 (k5.trans k6) (k6.vk L F5) F6 (k6 _ _ (s5 _ _ hl4) nlf nlp nlr) okd ?_ ?_ ?_⟩
            · rw [szP_snoc, szP_snoc, List.length_append, List.length_append, List.length_singleton, List.length_singleton]
              omega
            · rw [szP_snoc, szP_snoc]; omega
            · show _ = wr S m n ar d (wr S m n ar k (p ++ [g]) ++ [(": " : Str)])
              rw [wr_plain hk hn]
        · have hj0 : j = 0 := by
            have : ¬ (0 : Int) < (j : Int) := of_decide_eq_false e
            omega
          subst hj0
          have okd : okW S d ∧ wr S m n ar d (p ++ [g]) = zrow (wr S m n ar) r (p ++ [g]) 1 := by
            rcases hrow with ⟨d', rfl, okd⟩ | ⟨k, d', rfl, hk, okk, okd⟩
            · cases hd; exact ⟨okd, rfl⟩
            · cases hd; exact ⟨okk, rfl⟩
          exact ⟨_, rfl, _, rfl, fin (p ++ [g]) _ k5 Vk.rfl' F5 (s5 _ _ hl4) okd.1 hq1b (by omega) okd.2⟩
      · rintro σ H4 ⟨y4', y5', rfl, k4, F4, hl4, hr4, hq4, hus4⟩
        have ez : zrow (wr S m n ar) r (p ++ [g]) us.length = rowW (wr S m n ar) r (p ++ [g]) := by
          rcases hrow with ⟨d', rfl, _⟩ | ⟨k, d', rfl, _⟩
          · rw [hul]; rfl
          · rw [hul]; rfl
        rw [ez] at F4
        exact ⟨_, _, _, _, _, rfl, k4, F4, hl4, hr4, he', by omega, fun z => by omega, rf2, rf1⟩
    · rintro σ H2 ⟨g, p, y3, y4, y5, rfl, k2, F2, hl2, hr2, he, hg, hg0, hp1, hp2⟩
      rw [hrl, List.drop_length] at he
      refine q H2 k2 ?_
      rw [← he]
      exact F2.F
end
end My
namespace My
open PySem L2 SX XT XS XE XD XL
open C8 (pss_cut tCut cutS_slice pe_gc)
section
variable {P : Program} {w : World} {K : PySem.W.Frag} {mg : Str → Option Value} {base : Heap} {A : Ads}
theorem held_few {S : St} {m n : Nat} (hw : WfS S) (hp : PlS S m) (hn : 1 ≤ n) {ar : List Nat} : ∀ (rs : List (List Dv)) (g : Str) (qs : List Str), (∀ r ∈ rs, okRow S r) → g.length ≤ 2 → (g.length = 0 → qs.length + 1 ≤ 2 * szP qs) → qs.length ≤ 2 * szP qs → szP qs ≤ m + 2010 + cW n →
    szP (heldW m (wr S m n ar) g rs qs) ≤ m + 2010 + cW n ∧ (heldW m (wr S m n ar) g rs qs).length ≤ 2 * szP (heldW m (wr S m n ar) g rs qs) := by
  intro rs
  induction rs with
  | nil => intro g qs _ _ _ h1 h2; exact ⟨h2, h1⟩
  | cons r rs ih =>
    intro g qs hr hg hg0 h1 h2
    by_cases he : m < szP qs
    · rw [heldW_stop he]; exact ⟨h2, h1⟩
    · rw [heldW_go he]
      have hq1 : (qs ++ [g]).length ≤ 2 * szP (qs ++ [g]) := by
        rw [List.length_append, szP_snoc, List.length_singleton]
        by_cases g0 : g.length = 0
        · have := hg0 g0; omega
        · omega
      have hq2 : szP (qs ++ [g]) ≤ m + 2 := by rw [szP_snoc]; omega
      have lc : ((", " : Str)).length = 2 := by decide +kernel
      obtain ⟨a1, a2⟩ := row_few (ar := ar) hw hp hn (hr r (by simp)) hq1 hq2
      exact ih ", " _ (fun r h => hr r (List.mem_cons_of_mem _ h)) (by omega) (fun z => by omega) a2 a1
def arW (S : St) (m n : Nat) (ar : List Nat) (i : Nat) (t : Th) (o c : Str) (ps : List Str) : List Str :=
  (if i ∈ ar ∨ 10 ≤ ar.length then ps ++ [o] ++ [("..." : Str)] else heldW m (wr S m n (ar ++ [i])) "" (rowsT t) (ps ++ [o])) ++ [c]
def spAr (P : Program) (w : World) (A : Ads) (n : Nat) : Sp := fun vs H Q _ => ∃ (a : Fa) (sa : Sa) (S : St) (m : Nat) (ps : List Str) (ar : List Nat) (r : Addr) (i : Nat) (t : Th) (o c : Str), vs = [.ref a.f, .ref r, .str o, .str c] ∧ FS P w A H a sa S m ps ar ∧ Has A H (.ref r) (.obj i) ∧ S.things[i]? = some t ∧ isC t = true ∧ (rowsT t).length ≤ 1000 ∧ o.length = 1 ∧ c.length = 1 ∧ ar.length + (n + 1) = 11 ∧ ps.length ≤ 2 * szP ps ∧ szP ps ≤ m + 2006 ∧
  ∀ H', Fk a H H' → FormAt A H' a sa.s m (arW S m n ar i t o c ps) ar → Q .non H'
theorem ok_write_around (L : Lib P K mg A) {n : Nat} (G_write_held : FnOk P w K mg base CX0 (3 * n + 4) L.write_held.f L.write_held.fd ["form", "thing"] (spHe P w A n)) : FnOk P w K mg base CX0 (3 * n + 5) L.write_around.f L.write_around.fd ["form", "ref", "opening", "closing"] (spAr P w A n) := by
  have G_Form_add : FnOk P w K mg base CX0 1 L.Form_add.f L.Form_add.fd ["self", "text"] (spFAdd A) := ok_Form_add L
  have G_Store_at : FnOk P w K mg base CX0 1 L.Store_at.f L.Store_at.fd ["self", "ref"] (spAt P w A) := ok_Store_at L
  refine L.write_around.F.ok sc_write_around (fun vs H Q E h => ?_) (fun cdv A' outer s H vs Q E hr h => ?_)
  · obtain ⟨a, sa, S, m, ps, ar, r, i, t, o, c, rfl, _⟩ := h
    rfl
  · obtain ⟨a, sa, S, m, ps, ar, r, i, t, o, c, rfl, hF, hR, hi, hC, hlen, ho, hcl, har, hc, hz, q⟩ := h
    have hm := hF.hm
    obtain ⟨dx, ef⟩ := hF.F.f
    refine ⟨_, (pss_cons (ps_expr (pe_meth (pv 0) L.c_Form.cl L.Form_add.m G_Form_add (hr.mono (by omega)) L.Form_add.b .nil pass0 (pa_cons (pv 2) pa_nil)))
      (pss_cons (ps_if (PW.pt (pw_or (pt_cmpR op_in_seq (pe_fld (pv 1) rfl) (pe_fld (pv 0) rfl) (by rfl)) (pw_or1 (pt_cmpR op_ge (pe_callB call_len_seq (by rfl) L.z_len PySem.boot_len (pa_cons (pe_fld (pv 0) rfl) pa_nil)) (pe_glob (v := .int 10) (by rfl) L.v_MOST_AROUND.choose_spec ⟨_, rfl⟩) (nomark _)))))
        (pss_one (ps_expr (pe_meth (pv 0) L.c_Form.cl L.Form_add.m G_Form_add (hr.mono (by omega)) L.Form_add.b .nil pass0 (pa_cons pe_str pa_nil))))
        (pss_cons (ps_expr (pe_bm PySem.F.plainAttrs_list PySem.F.slot_list_append PySem.F.type_list_append mt_append (pe_fld (pv 0) rfl) (pa_cons (pe_fld (pv 1) rfl) pa_nil)))
      (pss_cons (ps_expr (pe_call G_write_held (hr.mono (by omega)) (by rfl) L.write_held.g L.write_held.F.kp L.write_held.b .nil pass0 (pa_cons (pv 0) (pa_cons (pe_meth (pe_fld (pv 0) rfl) L.c_Store.cl L.Store_at.m G_Store_at (hr.mono (by omega)) L.Store_at.b .nil pass0 (pa_cons (pv 1) pa_nil)) pa_nil))))
      (pss_one (ps_expr (pe_bm0 PySem.F.plainAttrs_list PySem.F.slot_list_pop PySem.F.type_list_pop mt_pop (pe_fld (pv 0) rfl)))))))
      (pss_one (ps_expr (pe_meth (pv 0) L.c_Form.cl L.Form_add.m G_Form_add (hr.mono (by omega)) L.Form_add.b .nil pass0 (pa_cons (pv 3) pa_nil)))))), ?_⟩
    refine ⟨_, rfl, a.f, dx, _, rfl, ef, fm_no _ _ _ _ _ (by decide +kernel) (by decide +kernel) (by decide +kernel) (by decide +kernel) (by decide +kernel), _, rfl, a, sa.s, m, ps, ar, o, rfl, hF.F, by omega, by omega, fun H1 k1 F1' => ?_⟩
    have F1 := hF.step L k1 F1'
    have hR1 := (k1.vk L hF).v _ _ hR
    obtain ⟨dx1, ef1⟩ := F1.F.f
    obtain ⟨br, dr, er, hr1⟩ := id hR1
    cases er
    have l3 : (("..." : Str)).length = 3 := by decide +kernel
    have lp1 : (ps ++ [o]).length < 999990 := by
      rw [List.length_append, List.length_singleton]
      omega
    have lp1 : (ps ++ [o]).length < 1000000 := by omega
    have lp2 : (ps ++ [o]).length < 999990 := by
      rw [List.length_append, List.length_singleton]
      omega
    have flat : (ar.map fun n => V.int (n : Nat)).all flatV = true := by
      rw [List.all_eq_true]
      intro v hv
      obtain ⟨k, _, rfl⟩ := List.mem_map.mp hv
      rfl
    have inA : inV (.int (i : Nat)) (ar.map fun n => V.int (n : Nat)) = decide (i ∈ ar) := by
      unfold inV
      rw [List.any_map, Bool.eq_iff_iff, List.any_eq_true, decide_eq_true_iff]
      constructor
      · rintro ⟨k, hk, e⟩
        have e : ((k : Int) == (i : Int)) = true := e
        have : k = i := by have := eq_of_beq e; omega
        rw [← this]; exact hk
      · intro h
        exact ⟨i, h, beq_self_eq_true ((i : Nat) : Int)⟩
    refine ⟨_, rfl, r, A.Ref, dr, _, .int (i : Nat), rfl, hr1, L.c_Ref.cl, L.n_Ref_number, lk_hit, _, rfl, a.f, A.Form, dx1, _, .ref a.r, rfl, ef1, L.c_Form.cl, L.n_Form_around, fm_around _ _ _ _ _, a.r, _, rfl, .inl (SqL.of F1.F.r), rfl, flat, _, rfl, ?_⟩
    show if inV (.int (i : Nat)) (ar.map fun n => V.int (n : Nat)) = true then _ else _
    rw [inA]
    refine ite_or (fun e => ?_) fun e => ?_
    · have hst : i ∈ ar ∨ 10 ≤ ar.length := .inl (of_decide_eq_true e)
      {
        have ES : arW S m n ar i t o c ps = ps ++ [o] ++ [("..." : Str)] ++ [c] := by
          unfold arW
          rw [if_pos hst]
        refine ⟨_, rfl, a.f, dx1, _, rfl, ef1, fm_no _ _ _ _ _ (by decide +kernel) (by decide +kernel) (by decide +kernel) (by decide +kernel) (by decide +kernel), a, sa.s, m, _, ar, "...", rfl, F1.F, lp1, by rw [l3]; decide, fun H2 k2 F2' => ?_⟩
        have F2 := F1.step L k2 F2'
        obtain ⟨dx2, ef2⟩ := F2.F.f
        refine ⟨_, rfl, a.f, dx2, _, rfl, ef2, fm_no _ _ _ _ _ (by decide +kernel) (by decide +kernel) (by decide +kernel) (by decide +kernel) (by decide +kernel), _, rfl, a, sa.s, m, _, ar, c, rfl, F2.F, by rw [List.length_append, List.length_singleton]; omega, by omega, fun H3 k3 F3 => ?_⟩
        exact q H3 ((k1.trans k2).trans k3) (by rw [ES]; exact F3) }
    refine ⟨_, rfl, a.f, A.Form, dx1, _, .ref a.r, rfl, ef1, L.c_Form.cl, L.n_Form_around, fm_around _ _ _ _ _, a.r, _, rfl, .inl (SqL.of F1.F.r), _, _, rfl, rfl, _, rfl, ite_or (fun e2 => ?_) fun e2 => ?_⟩
    · have hst : i ∈ ar ∨ 10 ≤ ar.length := .inr (by have e2 : decide ((10 : Int) ≤ ((ar.map fun n => V.int (n : Nat)).length : Nat)) = true := e2; have := of_decide_eq_true e2; rw [List.length_map] at this; omega)
      {
        have ES : arW S m n ar i t o c ps = ps ++ [o] ++ [("..." : Str)] ++ [c] := by
          unfold arW
          rw [if_pos hst]
        refine ⟨_, rfl, a.f, dx1, _, rfl, ef1, fm_no _ _ _ _ _ (by decide +kernel) (by decide +kernel) (by decide +kernel) (by decide +kernel) (by decide +kernel), a, sa.s, m, _, ar, "...", rfl, F1.F, lp1, by rw [l3]; decide, fun H2 k2 F2' => ?_⟩
        have F2 := F1.step L k2 F2'
        obtain ⟨dx2, ef2⟩ := F2.F.f
        refine ⟨_, rfl, a.f, dx2, _, rfl, ef2, fm_no _ _ _ _ _ (by decide +kernel) (by decide +kernel) (by decide +kernel) (by decide +kernel) (by decide +kernel), _, rfl, a, sa.s, m, _, ar, c, rfl, F2.F, by rw [List.length_append, List.length_singleton]; omega, by omega, fun H3 k3 F3 => ?_⟩
        exact q H3 ((k1.trans k2).trans k3) (by rw [ES]; exact F3) }
    have hst : ¬ (i ∈ ar ∨ 10 ≤ ar.length) := by
      rintro (h | h)
      · exact of_decide_eq_false e h
      · have e2 : decide ((10 : Int) ≤ ((ar.map fun n => V.int (n : Nat)).length : Nat)) = false := e2
        have := of_decide_eq_false e2
        rw [List.length_map] at this
        omega
    have hn1 : 1 ≤ n := by omega
    have ES : arW S m n ar i t o c ps = heldW m (wr S m n (ar ++ [i])) "" (rowsT t) (ps ++ [o]) ++ [c] := by
      unfold arW
      rw [if_neg hst]
    obtain ⟨nfp, nfr⟩ := F1.F.np
    have npr := F1.F.pr
    refine ⟨_, rfl, a.f, A.Form, dx1, _, .ref a.r, rfl, ef1, L.c_Form.cl, L.n_Form_around, fm_around _ _ _ _ _, .inl ⟨rfl, _, SqL.of F1.F.r⟩, _, rfl, r, A.Ref, dr, _, .int (i : Nat), rfl, hr1, L.c_Ref.cl, L.n_Ref_number, lk_hit, a.r, _, _, rfl, rfl, F1.F.r, Nat.lt_of_le_of_lt (m := 11) (by rw [List.length_map]; omega) (by decide), ?_⟩
    have k2 : Fk a H1 (upd H1 a.r (.lst (ar.map (fun n => V.int (n : Nat)) ++ [.int (i : Nat)]))) := fun b u e _ _ n3 => by rw [upd_ne n3]; exact e
    have F2 : FS P w A (upd H1 a.r (.lst (ar.map (fun n => V.int (n : Nat)) ++ [.int (i : Nat)]))) a sa S m (ps ++ [o]) (ar ++ [i]) := F1.step L k2 ⟨⟨dx1, by rw [upd_ne nfr]; exact ef1⟩, by rw [upd_ne npr]; exact F1.F.p, by rw [upd_same, List.map_append]; rfl, npr⟩
    have vk2 := k2.vk L F1
    have hR2 := vk2.v _ _ hR1
    obtain ⟨dx2, ef2⟩ := F2.F.f
    obtain ⟨dxs, hs0⟩ := F2.sm.s_
    obtain ⟨xx, mm, hX, hM, hth⟩ := F2.sm.get hi
    refine ⟨_, rfl, _, rfl, a.f, A.Form, dx2, _, .ref sa.s, rfl, ef2, L.c_Form.cl, L.n_Form_store, fm_store _ _ _ _ _, sa.s, dxs, _, rfl, hs0, st_no _ _ _ _ (by decide +kernel) (by decide +kernel) (by decide +kernel) (by decide +kernel), _, rfl, sa, S, r, xx, i, rfl, F2.sm, hR2, hX, ?_⟩
    refine ⟨a, sa, S, m, ps ++ [o], ar ++ [i], xx, mm, t, rfl, F2, hth, hC, F2.wf.2 i t hi, hlen, by rw [List.length_append, List.length_singleton]; omega, hn1, by rw [List.length_append, szP_snoc, List.length_singleton]; omega, by rw [szP_snoc]; omega, fun H3 k3 F3' => ?_⟩
    have F3 := F2.step L k3 F3'
    obtain ⟨dx3, ef3⟩ := F3.F.f
    have hlast : ((ar ++ [i]).map fun n => V.int (n : Nat))[((ar ++ [i]).map fun n => V.int (n : Nat)).length - 1]? = some (.int (i : Nat)) := by
      rw [List.map_append]
      simp
    refine ⟨_, rfl, a.f, A.Form, dx3, _, .ref a.r, rfl, ef3, L.c_Form.cl, L.n_Form_around, fm_around _ _ _ _ _, .inl ⟨rfl, _, SqL.of F3.F.r⟩, a.r, _, _, rfl, rfl, F3.F.r, hlast, ?_⟩
    have k4 : Fk a H3 (upd H3 a.r (.lst ((ar ++ [i]).map fun n => V.int (n : Nat)).dropLast)) := fun b u e _ _ n3 => by rw [upd_ne n3]; exact e
    have F4 : FS P w A (upd H3 a.r (.lst ((ar ++ [i]).map fun n => V.int (n : Nat)).dropLast)) a sa S m (heldW m (wr S m n (ar ++ [i])) "" (rowsT t) (ps ++ [o])) ar := F3.step L k4 ⟨⟨dx3, by rw [upd_ne nfr]; exact ef3⟩, by rw [upd_ne npr]; exact F3.F.p, by rw [upd_same, List.map_append, List.map_singleton, List.dropLast_concat], npr⟩
    obtain ⟨dx4, ef4⟩ := F4.F.f
    have hfew : (heldW m (wr S m n (ar ++ [i])) "" (rowsT t) (ps ++ [o])).length < 1000000 := by
      obtain ⟨b1, b2⟩ := held_few (ar := ar ++ [i]) F3.wf F3.pl hn1 (rowsT t) "" (ps ++ [o]) (rows_ok (F2.wf.2 i t hi)) (by decide +kernel) (fun _ => by rw [List.length_append, szP_snoc, List.length_singleton]; omega) (by rw [List.length_append, szP_snoc, List.length_singleton]; omega) (by rw [szP_snoc]; omega)
      have : cW n ≤ 2100 * 11 := by unfold cW; omega
      omega
    refine ⟨_, rfl, a.f, dx4, _, rfl, ef4, fm_no _ _ _ _ _ (by decide +kernel) (by decide +kernel) (by decide +kernel) (by decide +kernel) (by decide +kernel), _, rfl, a, sa.s, m, _, ar, c, rfl, F4.F, hfew, by omega, fun H5 k5 F5 => ?_⟩
    exact q H5 ((((k1.trans k2).trans k3).trans k4).trans k5) (by rw [ES]; exact F5)
theorem ok_write_step (L : Lib P K mg A) {n : Nat} (G_write_around : FnOk P w K mg base CX0 (3 * n + 5) L.write_around.f L.write_around.fd ["form", "ref", "opening", "closing"] (spAr P w A n)) : FnOk P w K mg base CX0 (3 * (n + 1) + 3) L.write.f L.write.fd ["form", "value"] (spWr P w A (n + 1)) := by
  have G_Form_add : FnOk P w K mg base CX0 1 L.Form_add.f L.Form_add.fd ["self", "text"] (spFAdd A) := ok_Form_add L
  have G_Store_at : FnOk P w K mg base CX0 1 L.Store_at.f L.Store_at.fd ["self", "ref"] (spAt P w A) := ok_Store_at L
  have G_plain_form : FnOk P w K mg base CX0 2 L.plain_form.f L.plain_form.fd ["form", "value", "thing"] (spPlain P w A) := ok_plain_form L
  refine L.write.F.ok sc_write (fun vs H Q E h => ?_) (fun cdv A' outer s H vs Q E hr h => ?_)
  · obtain ⟨a, sa, S, m, ps, ar, v, d, rfl, _⟩ := h
    rfl
  · obtain ⟨a, sa, S, m, ps, ar, v, d, rfl, hF, hv, ok, har, hn, hc, hz, q⟩ := h
    refine ⟨_, (pss_cons (ps_set (i := 2) sc_write.nd rfl (.inl rfl) (pe_ifExp (pt_val (pe_callB call_isi (by rfl) L.z_isinstance (by decide +kernel) (pa_cons (pv 1) (pa_cons (pe_gc (v := .ref A.Ref) (by rfl) ⟨_, L.c_Ref.g, rfl⟩) pa_nil)))) (pe_meth (pe_fld (pv 0) rfl) L.c_Store.cl L.Store_at.m G_Store_at (hr.mono (by omega)) L.Store_at.b .nil pass0 (pa_cons (pv 1) pa_nil)) pe_non))
      (pss_one (ps_if (pt_val (pe_callB call_isi (by rfl) L.z_isinstance (by decide +kernel) (pa_cons (pv 2) (pa_cons (pe_gc (v := .ref A.Parts) (by rfl) ⟨_, L.c_Parts.g, rfl⟩) pa_nil))))
        (pss_one (ps_expr (pe_call G_write_around (hr.mono (by omega)) (by rfl) L.write_around.g L.write_around.F.kp L.write_around.b .nil pass0 (pa_cons (pv 0) (pa_cons (pv 1) (pa_cons pe_str (pa_cons pe_str pa_nil)))))))
        (pss_one (ps_if (pt_val (pe_callB call_isi (by rfl) L.z_isinstance (by decide +kernel) (pa_cons (pv 2) (pa_cons (pe_gc (v := .ref A.Table) (by rfl) ⟨_, L.c_Table.g, rfl⟩) pa_nil))))
        (pss_one (ps_expr (pe_call G_write_around (hr.mono (by omega)) (by rfl) L.write_around.g L.write_around.F.kp L.write_around.b .nil pass0 (pa_cons (pv 0) (pa_cons (pv 1) (pa_cons pe_str (pa_cons pe_str pa_nil)))))))
        (pss_one (ps_expr (pe_meth (pv 0) L.c_Form.cl L.Form_add.m G_Form_add (hr.mono (by omega)) L.Form_add.b .nil pass0 (pa_cons (pe_call G_plain_form (hr.mono (by omega)) (by rfl) L.plain_form.g L.plain_form.F.kp L.plain_form.b .nil pass0 (pa_cons (pv 0) (pa_cons (pv 1) (pa_cons (pv 2) pa_nil)))) pa_nil))))))))), ?_⟩
    obtain ⟨dx, ef⟩ := hF.F.f
    obtain ⟨dxs, hs0⟩ := hF.sm.s_
    have hm := hF.hm
    have hpl := hF.pl d ok
    have hz1 := hpl.1
    have hz2 := hpl.2
    have noA : ∀ k, (formF sa.s a.p a.r m k).lookup ("add" : Str) = none := fun k => fm_no _ _ _ _ _ (by decide +kernel) (by decide +kernel) (by decide +kernel) (by decide +kernel) (by decide +kernel)
    cases d with
    | obj k =>
      obtain ⟨t, ht⟩ : ∃ t, S.things[k]? = some t := ⟨_, List.getElem?_eq_getElem ok⟩
      obtain ⟨x, mm, hX, hM, hth⟩ := hF.sm.get ht
      obtain ⟨b, db, rfl, hb⟩ := id hv
      have hot : OptTh P w A H (.ref x) (thO S (.obj k)) := by
        show OptTh P w A H (.ref x) S.things[k]?
        rw [ht]
        exact ⟨x, mm, rfl, hth⟩
      refine ⟨_, rfl, _, .ref A.Ref, _, .ref A.Ref, _, rfl, .own _, has_ty L hv, kit_R L _, _, rfl, ?_⟩
      refine iteT ⟨_, rfl, a.f, A.Form, dx, _, .ref sa.s, rfl, ef, L.c_Form.cl, L.n_Form_store, fm_store _ _ _ _ _, sa.s, dxs, _, rfl, hs0, st_no _ _ _ _ (by decide +kernel) (by decide +kernel) (by decide +kernel) (by decide +kernel), _, rfl, sa, S, b, x, k, rfl, hF.sm, hv, hX, ?_⟩
      have EW : isC t = true → wr S m (n + 1) ar (.obj k) ps = arW S m n ar k t (opn t) (cls' t) ps := fun h => by
        conv => lhs; unfold wr
        have : thO S (.obj k) = some t := ht
        rw [this]
        dsimp only
        rw [if_pos h]
        rfl
      refine ⟨_, rfl, _, .ref A.Parts, _, .ref A.Parts, _, rfl, .own _, th_ty L hth, kit_P L t, _, rfl, ite_or (fun e => ?_) fun e => ?_⟩
      · cases t with
        | parts ds =>
          have okt := hF.wf.2 k _ ht
          refine ⟨_, rfl, _, rfl, a, sa, S, m, ps, ar, b, k, .parts ds, "[", "]", rfl, hF, hv, ht, rfl, ?_, by decide +kernel, by decide +kernel, har, hc, hz, fun H' k' F => q H' k' (by rw [EW rfl]; exact F)⟩
          show (ds.map _).length ≤ 1000
          rw [List.length_map]
          exact okt.1
        | _ => cases e
      refine ⟨_, rfl, _, .ref A.Table, _, .ref A.Table, _, rfl, .own _, th_ty L hth, kit_T L t, _, rfl, ite_or (fun e2 => ?_) fun e2 => ?_⟩
      · cases t with
        | table es =>
          obtain ⟨ents, hT, hE, hnd, hle⟩ := id hth
          refine ⟨_, rfl, _, rfl, a, sa, S, m, ps, ar, b, k, .table es, "{", "}", rfl, hF, hv, ht, rfl, ?_, by decide +kernel, by decide +kernel, har, hc, hz, fun H' k' F => q H' k' (by rw [EW rfl]; exact F)⟩
          show (es.map _).length ≤ 1000
          rw [List.length_map]
          exact hle
        | _ => cases e2
      have hC : isC t = false := by unfold isC; rw [show tP t = false from e, show tT t = false from e2]; rfl
      have EP : wr S m (n + 1) ar (.obj k) ps = ps ++ [plainS S m (.obj k)] := by
        conv => lhs; unfold wr
        have : thO S (.obj k) = some t := ht
        rw [this]
        dsimp only
        rw [if_neg (by rw [hC]; exact Bool.false_ne_true)]
      refine ⟨_, rfl, a.f, dx, _, rfl, ef, noA _, _, rfl, _, rfl, _, rfl, a, sa, S, m, ps, ar, .ref b, .ref x, .obj k, rfl, hF.F, hF.sm, hv, hot, hF.wf, ok, a, sa.s, m, ps, ar, plainS S m (.obj k), rfl, hF.F, by omega, by omega, fun H' k' F => q H' k' (by rw [EP]; exact F)⟩
    | _ =>
      refine ⟨_, rfl, _, .ref A.Ref, _, .ref A.Ref, _, rfl, .own _, has_ty L hv, kit_R L _, _, rfl, iteF ?_⟩
      refine ⟨_, rfl, _, .ref A.Parts, _, .ref A.Parts, _, rfl, .own _, opt_ty (w := w) L (o := none) rfl, opt_P L _, _, rfl, iteF ?_⟩
      refine ⟨_, rfl, _, .ref A.Table, _, .ref A.Table, _, rfl, .own _, opt_ty (w := w) L (o := none) rfl, opt_T L _, _, rfl, iteF ?_⟩
      refine ⟨_, rfl, a.f, dx, _, rfl, ef, noA _, _, rfl, _, rfl, _, rfl, a, sa, S, m, ps, ar, v, .non, _, rfl, hF.F, hF.sm, hv, rfl, hF.wf, ok, a, sa.s, m, ps, ar, _, rfl, hF.F, by omega, by omega, fun H' k' F => q H' k' (by rw [wr_plain rfl (by omega)]; exact F)⟩
theorem ok_write (L : Lib P K mg A) : ∀ n : Nat, FnOk P w K mg base CX0 (3 * n + 3) L.write.f L.write.fd ["form", "value"] (spWr P w A n)
  | 0 => by
    refine L.write.F.ok sc_write (fun vs H Q E h => ?_) (fun cdv A' outer s H vs Q E hr h => ?_)
    · obtain ⟨a, sa, S, m, ps, ar, v, d, rfl, _⟩ := h
      rfl
    · obtain ⟨a, sa, S, m, ps, ar, v, d, rfl, hF, hv, ok, har, hn, hc, hz, q⟩ := h
      exact absurd hn (by decide)
  | n + 1 => ok_write_step L (ok_write_around L (ok_write_held L (ok_write L n)))
end
end My
namespace My
open PySem L2 SX XT XS XE XD XL
open C8 (pss_cut tCut cutS_slice pe_gc)
section
variable {P : Program} {w : World} {K : PySem.W.Frag} {mg : Str → Option Value} {base : Heap} {A : Ads}
theorem glueL_nil : ∀ r : List Str, StrLaws.glueL [] r = (r.map (·.cps.toList)).flatten
  | [] => rfl
  | p :: r => by
    show [] ++ (p.cps.toList ++ StrLaws.glueL [] r) = p.cps.toList ++ (r.map (·.cps.toList)).flatten
    rw [glueL_nil r, List.nil_append]
theorem join_list : ∀ ys : List Str, (Txt.join "" ys).cps.toList = (ys.map (·.cps.toList)).flatten
  | [] => by decide +kernel
  | p :: r => by
    show (Builtin.Str.glued "" (p :: r)).cps.toList = _
    rw [StrLaws.glued_list]
    show p.cps.toList ++ StrLaws.glueL (("" : Str)).cps.toList r = p.cps.toList ++ (r.map (·.cps.toList)).flatten
    rw [show (("" : Str)).cps.toList = [] by decide +kernel, glueL_nil]
theorem join_len (ys : List Str) : (Txt.join "" ys).length = szP ys := by
  show (Txt.join "" ys).cps.toList.length = _
  rw [join_list]
  unfold szP
  induction ys with
  | nil => rfl
  | cons p r ih =>
    rw [List.map_cons, List.flatten_cons, List.length_append, ih]
    rfl
/-- what write_value answers -/
def valS (S : St) (m : Nat) (d : Dv) : Str := headS m (Txt.join "" (wr S m 11 [] d []))
def spWV (P : Program) (w : World) (A : Ads) : Sp := fun vs H Q _ => ∃ (sa : Sa) (S : St) (m : Nat) (v : V) (d : Dv), vs = [.ref sa.s, v, .int (m : Nat)] ∧ SM P w A H sa S ∧ Has A H v d ∧ WfS S ∧ PlS S m ∧ okW S d ∧ m ≤ 2000 ∧ ∀ H', Same H H' → Q (.str (valS S m d)) H'
theorem ok_write_value (L : Lib P K mg A) : FnOk P w K mg base CX0 37 L.write_value.f L.write_value.fd ["store", "value", "most"] (spWV P w A) := by
  have G_Form_init : FnOk P w K mg base CX0 1 L.Form_init.f L.Form_init.fd ["self", "store", "most"] (spFI A) := ok_Form_init L
  have G_write : FnOk P w K mg base CX0 (3 * 11 + 3) L.write.f L.write.fd ["form", "value"] (spWr P w A 11) := ok_write L 11
  refine L.write_value.F.ok sc_write_value (fun vs H Q E h => ?_) (fun cdv A' outer s H vs Q E hr h => ?_)
  · obtain ⟨sa, S, m, v, d, rfl, _⟩ := h
    rfl
  · obtain ⟨sa, S, m, v, d, rfl, hS, hv, hw, hp, ok, hm, q⟩ := h
    refine ⟨_, (pss_cons (ps_set (i := 3) sc_write_value.nd rfl (.inl rfl) (pe_make L.Form_init.m G_Form_init (hr.mono (by omega)) (by rfl) L.c_Form.g L.Form_init.b .nil pass0 (pa_cons (pv 0) (pa_cons (pv 2) pa_nil))))
      (pss_cons (ps_expr (pe_call G_write (hr.mono (by omega)) (by rfl) L.write.g L.write.F.kp L.write.b .nil pass0 (pa_cons (pv 3) (pa_cons (pv 1) pa_nil))))
      (pss_one (ps_ret (pe_slice sl_str (pe_join pe_str (pe_fld (pv 3) rfl)) po_none (po_some (pe_op op_add (pv 2) pe_int))))))), ?_⟩
    refine ⟨_, rfl, _, rfl, ?_⟩
    intro x dx nx ndx ndxx
    have sm0 : Same H (upd (upd H dx (.own x)) x (.ins A.Form dx [])) := fun b u e => by
      rw [upd_ne (ne_of_none e nx), upd_ne (ne_of_none e ndx)]
      exact e
    refine ⟨x, dx, sa.s, m, rfl, upd_same, fun H1 a ea k1 hF np nr => ⟨rfl, ?_⟩⟩
    subst ea
    have s1 := Same.made nx ndx k1
    have np0 : H a.p = none := sm0.free np
    have nr0 : H a.r = none := sm0.free nr
    have F1 : FS P w A H1 a sa S m [] [] := ⟨hF, hS.same s1, hS.fresh L nx, hS.fresh L np0, hS.fresh L nr0, hw, hp, hm⟩
    refine ⟨_, rfl, _, rfl, a, sa, S, m, [], [], v, d, rfl, F1, hv.sv (Same.sv s1), ok, rfl, by decide, Nat.zero_le _, Nat.zero_le _, fun H2 k2 F2 => ?_⟩
    have s2 : Same H H2 := fun b u e => k2 b u (s1 b u e) (ne_of_none e nx) (ne_of_none e np0) (ne_of_none e nr0)
    obtain ⟨dx2, ef2⟩ := F2.f
    obtain ⟨b1, b2⟩ := wr_few hw hp 11 [] d [] ok ⟨Nat.zero_le _, Nat.zero_le _⟩ (Nat.zero_le _)
    have z0 : szP [] = 0 := rfl
    have hz : szP (wr S m 11 [] d []) ≤ 30000 := by
      rw [z0] at b1
      have : cW 11 = 23100 := rfl
      omega
    have lj : (Txt.join "" (wr S m 11 [] d [])).length ≤ 30000 := by
      rw [join_len]
      exact hz
    refine ⟨⟨_, rfl⟩, _, rfl, a.f, A.Form, dx2, _, .ref a.p, rfl, ef2, L.c_Form.cl, L.n_Form_pieces, fm_pieces _ _ _ _ _, "", a.p, wr S m 11 [] d [], rfl, rfl, .inl (SqL.of F2.p), ?_, ?_⟩
    · show szP (wr S m 11 [] d []) + _ * (("" : Str)).length ≤ _
      rw [show (("" : Str)).length = 0 by decide +kernel, Nat.mul_zero]
      omega
    refine ⟨_, rfl, _, _, rfl, rfl, _, rfl, _, rfl, Nat.le_trans lj (by decide), q H2 s2⟩
end
def spTO (P : Program) (w : World) (A : Ads) : Sp := fun vs H Q _ => ∃ (sa : Sa) (S : St) (m : Nat) (v : V) (d : Dv), vs = [.ref sa.s, v, .int (m : Nat)] ∧ SM P w A H sa S ∧ Has A H v d ∧ WfS S ∧ PlS S m ∧ okW S d ∧ m ≤ 2000 ∧ ∀ H', Same H H' → Q (.str (match d with | .str x => x | _ => valS S m d)) H'
section
variable {P : Program} {w : World} {K : PySem.W.Frag} {mg : Str → Option Value} {base : Heap} {A : Ads}
theorem ok_text_of (L : Lib P K mg A) : FnOk P w K mg base CX0 38 L.text_of.f L.text_of.fd ["store", "value", "most"] (spTO P w A) := by
  have G_write_value : FnOk P w K mg base CX0 37 L.write_value.f L.write_value.fd ["store", "value", "most"] (spWV P w A) := ok_write_value L
  refine L.text_of.F.ok sc_text_of (fun vs H Q E h => ?_) (fun cdv A' outer s H vs Q E hr h => ?_)
  · obtain ⟨sa, S, m, v, d, rfl, _⟩ := h
    rfl
  · obtain ⟨sa, S, m, v, d, rfl, hS, hv, hw, hp, ok, hm, q⟩ := h
    refine ⟨_, (pss_cons (ps_if (pt_val (pe_callB call_isi (by rfl) L.z_isinstance (by decide +kernel) (pa_cons (pv 1) (pa_cons (pe_bltn (v := .ty "str") (by rfl) L.z_str (by decide +kernel) rfl) pa_nil))))
        (pss_one (ps_ret (pv 1)))
        pss_nil)
      (pss_one (ps_ret (pe_call G_write_value (hr.mono (by omega)) (by rfl) L.write_value.g L.write_value.F.kp L.write_value.b .nil pass0 (pa_cons (pv 0) (pa_cons (pv 1) (pa_cons (pv 2) pa_nil))))))), ?_⟩
    refine ⟨_, rfl, _, .ty "str", _, .type "str", _, rfl, .ty _, has_ty L hv, kit_str L d, _, rfl, ite_or (fun e => ?_) fun e => ?_⟩
    · cases d with
      | str x => cases hv; exact ⟨_, rfl, q H fun _ _ e => e⟩
      | _ => cases e
    · refine ⟨_, rfl, _, rfl, _, rfl, sa, S, m, v, d, rfl, hS, hv, hw, hp, ok, hm, fun H' s' => ?_⟩
      cases d with
      | str x => cases e
      | _ => exact q H' s'
end
end My
namespace My
open PySem L2 SX XT XS XE XD XL
open C8 (pss_cut tCut cutS_slice pe_gc)
/-- the numbers of a script, as they are drawn from -/
def kR : Key := .inr "rows"
def kA : Key := .inr "at"
def drF (l : Addr) (k : Nat) : List (Key × V) := [(kR, .ref l), (kA, .int (k : Nat))]
theorem drF_rows (l : Addr) (k : Nat) : valV (drF l k) kR = some (.ref l) := valV_pos rfl
theorem kRA : ¬ kR = kA := by decide +kernel
theorem drF_at (l : Addr) (k : Nat) : valV (drF l k) kA = some (.int (k : Nat)) := by
  unfold drF
  rw [valV_neg kRA]
  exact valV_pos rfl
theorem drF_put (l : Addr) (k j : Nat) : putK (drF l k) kA (.int (j : Nat)) = drF l j := by
  have h : ((drF l k).any fun kv => decide (kv.1 = kA)) = true := by
    unfold drF
    rw [List.any_cons, List.any_cons, decide_eq_true (p := kA = kA) rfl, Bool.true_or, Bool.or_true]
  unfold putK
  rw [if_pos h]
  unfold drF
  rw [List.map_cons, List.map_cons, List.map_nil]
  rw [if_neg kRA, if_pos rfl]
section
variable {P : Program} {w : World} {K : PySem.W.Frag} {mg : Str → Option Value} {base : Heap} {A : Ads}
/-- the state at p: rows at l, at most b drawn -/
structure Dr (H : Hp) (p l : Addr) (ns : List Int) (b : Nat) : Prop where
  p_ : ∃ k, k ≤ b ∧ H p = some (.dK (drF l k))
  l_ : H l = some (.lst (ns.map V.int))
  n0 : 0 < ns.length
  nz : ns.length ≤ 1000
  b_ : b ≤ 100000
theorem Dr.ne {H : Hp} {p l : Addr} {ns : List Int} {b : Nat} (d : Dr H p l ns b) : l ≠ p := fun z => by
  obtain ⟨k, _, e⟩ := d.p_
  rw [← z, d.l_] at e
  cases e
theorem Dr.same {H H' : Hp} {p l : Addr} {ns : List Int} {b : Nat} (d : Dr H p l ns b) (s : Same H H') : Dr H' p l ns b := by
  obtain ⟨k, h, e⟩ := d.p_
  exact ⟨⟨k, h, s _ _ e⟩, s _ _ d.l_, d.n0, d.nz, d.b_⟩
theorem Dr.le {H : Hp} {p l : Addr} {ns : List Int} {b c : Nat} (d : Dr H p l ns b) (h : b ≤ c) (hc : c ≤ 100000) : Dr H p l ns c := by
  obtain ⟨k, h1, e⟩ := d.p_
  exact ⟨⟨k, by omega, e⟩, d.l_, d.n0, d.nz, hc⟩
def spDr : Sp := fun vs H Q _ => ∃ (p l : Addr) (ns : List Int) (b many : Nat), vs = [.ref p, .int (many : Nat)] ∧ Dr H p l ns b ∧ b < 100000 ∧ 0 < many ∧ ∀ H' (r : Nat), Keep p H H' → Dr H' p l ns (b + 1) → r < many → Q (.int (r : Nat)) H'
theorem ok_law_draw (L : Lib P K mg A) : FnOk P w K mg base CX0 1 L.law_draw.f L.law_draw.fd ["state", "count_v"] spDr := by
  refine L.law_draw.F.ok sc_law_draw (fun vs H Q E h => ?_) (fun cdv A' outer s H vs Q E hr h => ?_)
  · obtain ⟨p, l, ns, b, many, rfl, _⟩ := h
    rfl
  · obtain ⟨p, l, ns, b, many, rfl, hD, hb, h0, q⟩ := h
    have hu : (A'.deeper (PyProof.Rows.envOfC ("_law_draw" : Str) (defScope s_law_draw) s.heap.objs.size L.law_draw.f cdv)).units + 1 < cLine := by
      have := units64 hr
      omega
    obtain ⟨k, hk, e⟩ := hD.p_
    have n0 := hD.n0
    have nz := hD.nz
    have nl := hD.ne
    refine ⟨_, (pss_cons (ps_set (i := 2) sc_law_draw.nd rfl (.inl rfl) (pe_ix ix_list (pe_dget hu (pv 0) pe_str (fun _ _ => rfl)) (pe_op op_mod (pe_callTy call_int1 (by rfl) L.z_int (by decide +kernel) (pa_cons (pe_dget hu (pv 0) pe_str (fun _ _ => rfl)) pa_nil)) (pe_callB call_len_seq (by rfl) L.z_len PySem.boot_len (pa_cons (pe_dget hu (pv 0) pe_str (fun _ _ => rfl)) pa_nil))) (fun _ _ => rfl)))
      (pss_cons (ps_dput hu (pv 0) pe_str (pe_op op_add (pe_dget hu (pv 0) pe_str (fun _ _ => rfl)) pe_int) rfl)
      (pss_one (ps_ret (pe_op op_mod (pe_callTy call_int1 (by rfl) L.z_int (by decide +kernel) (pa_cons (pe_op op_fdivW (pv 2) (pe_op op_add pe_int (pe_op op_fdiv (pe_dget hu (pv 0) pe_str (fun _ _ => rfl)) (pe_callB call_len_seq (by rfl) L.z_len PySem.boot_len (pa_cons (pe_dget hu (pv 0) pe_str (fun _ _ => rfl)) pa_nil))))) pa_nil)) (pv 1)))))), ?_⟩
    have gR : ∀ {H' : Hp} {j : Nat}, H' p = some (.dK (drF l j)) → DGet H' p (.str "rows") (some (.ref l)) := fun {H' j} e => by
      have := DGet.k (k := kR) e
      rw [drF_rows] at this
      exact this
    have gA : ∀ {H' : Hp} {j : Nat}, H' p = some (.dK (drF l j)) → DGet H' p (.str "at") (some (.int (j : Nat))) := fun {H' j} e => by
      have := DGet.k (k := kA) e
      rw [drF_at] at this
      exact this
    have hln : ((ns.map V.int).length : Nat) = ns.length := List.length_map _
    have m0 : (0 : Int) ≤ ((k : Nat) : Int) % ((ns.length : Nat) : Int) := Int.emod_nonneg _ (by omega)
    have m1 : ((k : Nat) : Int) % ((ns.length : Nat) : Int) < ((ns.length : Nat) : Int) := Int.emod_lt_of_pos _ (by omega)
    obtain ⟨j, hj⟩ : ∃ j : Nat, ((k : Nat) : Int) % ((ns.length : Nat) : Int) = (j : Int) := ⟨(((k : Nat) : Int) % ((ns.length : Nat) : Int)).toNat, by omega⟩
    have hjn : j < ns.length := by omega
    refine ⟨_, rfl, p, _, rfl, gR e, _, rfl, p, _, rfl, gA e, .inl ⟨_, rfl, _, rfl, p, _, rfl, gR e, l, _, rfl, .inl (SqL.of hD.l_), _, _, rfl, rfl, ?_, ?_⟩⟩
    · show (0 : Int) < ((ns.map V.int).length : Nat)
      rw [hln]; omega
    refine ⟨l, _, _, V.int ns[j], rfl, rfl, SqL.of hD.l_, ?_, ?_⟩
    · rw [hln, hj]
      refine atI_nat ?_
      rw [List.getElem?_map, List.getElem?_eq_getElem hjn]
      rfl
    refine ⟨_, rfl, p, _, rfl, gA e, _, _, rfl, rfl, _, rfl, p, _, rfl, DPut.k (k := kA) e (by show 2 < sizeLine; decide), ?_⟩
    have ep : putK (drF l k) kA (.int (((k : Nat) : Int) + 1)) = drF l (k + 1) := drF_put l k (k + 1)
    have e1 : upd H p (.dK (putK (drF l k) kA (.int (((k : Nat) : Int) + 1)))) p = some (.dK (drF l (k + 1))) := by
      rw [ep]; exact upd_same
    have k1 : Keep p H (upd H p (.dK (putK (drF l k) kA (.int (((k : Nat) : Int) + 1))))) := fun b o e n => by
      rw [upd_ne n]; exact e
    have l1 := k1 _ _ hD.l_ nl
    have D1 : Dr (upd H p (.dK (putK (drF l k) kA (.int (((k : Nat) : Int) + 1))))) p l ns (b + 1) := ⟨⟨k + 1, by omega, e1⟩, l1, n0, nz, by omega⟩
    have d0 : (0 : Int) ≤ (((k + 1 : Nat) : Nat) : Int) / ((ns.length : Nat) : Int) := Int.ediv_nonneg (by omega) (by omega)
    have d1 : (((k + 1 : Nat) : Nat) : Int) / ((ns.length : Nat) : Int) ≤ ((k + 1 : Nat) : Int) := Int.ediv_le_self _ (by omega)
    have db : (1 + (((k + 1 : Nat) : Nat) : Int) / ((ns.length : Nat) : Int)).natAbs < 2 ^ 20 := by
      have : (2 : Nat) ^ 20 = 1048576 := by decide
      have := hD.b_
      omega
    refine ⟨_, rfl, _, rfl, p, _, rfl, gA e1, _, rfl, p, _, rfl, gR e1, l, _, rfl, .inl (SqL.of l1), _, _, rfl, rfl, ?_, _, _, rfl, rfl, _, _, rfl, rfl, ?_, .inl ⟨_, rfl, _, rfl, _, _, rfl, rfl, (by show (0 : Int) < (many : Nat); omega), ?_⟩⟩
    · show (0 : Int) < ((ns.map V.int).length : Nat) ∧ (((ns.map V.int).length : Nat) : Int) < 1073741824
      rw [hln]; omega
    · rw [hln]
      exact wide_div (by omega) db (by decide) (by decide)
    rw [hln]
    have r0 := Int.emod_nonneg (ns[j] / (1 + (((k + 1 : Nat) : Nat) : Int) / ((ns.length : Nat) : Int))) (show ((many : Nat) : Int) ≠ 0 by omega)
    have r1 := Int.emod_lt_of_pos (ns[j] / (1 + (((k + 1 : Nat) : Nat) : Int) / ((ns.length : Nat) : Int))) (show (0 : Int) < ((many : Nat) : Int) by omega)
    dsimp only
    obtain ⟨r, hr'⟩ : ∃ r : Nat, (ns[j] / (1 + (((k + 1 : Nat) : Nat) : Int) / ((ns.length : Nat) : Int))) % ((many : Nat) : Int) = (r : Int) := ⟨_, (Int.toNat_of_nonneg r0).symm⟩
    rw [hr']
    exact q _ r k1 D1 (by omega)
/-! ### the rows -/
def spRows (K : PySem.W.Frag) : Sp := fun vs H Q _ => ∃ (a : Addr) (xs : List Int) (n : Nat), vs = [.ref a, .int (n : Nat)] ∧ SqL K H a (xs.map V.int) ∧ n ≤ 1000 ∧ ∀ H' l (ns : List Int), Same H H' → H l = none → H' l = some (.lst (ns.map V.int)) → ns.length = n → Q (.ref l) H'
theorem ok_law_rows (L : Lib P K mg A) : FnOk P w K mg base CX0 1 L.law_rows.f L.law_rows.fd ["script", "count_v"] (spRows K) := by
  refine L.law_rows.F.ok sc_law_rows (fun vs H Q E h => ?_) (fun cdv A' outer s H vs Q E hr h => ?_)
  · obtain ⟨a, xs, n, rfl, _⟩ := h
    rfl
  · obtain ⟨a, xs, n, rfl, hS, hn, q⟩ := h
    have nd := sc_law_rows.nd
    refine ⟨_, (pss_cons (ps_set (i := 2) sc_law_rows.nd rfl (.inl rfl) (pe_lst pa_nil))
      (pss_cons (ps_for PassesOwn.never rfl (pi_range1 (by rfl) L.z_range (pa_cons (pv 1) pa_nil)) (pg_name (i := 3) sc_law_rows.nd rfl (.inl rfl))
        (pss_cons (ps_set (i := 4) sc_law_rows.nd rfl (.inl rfl) pe_int)
      (pss_cut (ps_if (pt_cmpR op_gt (pe_callB call_len_seq (by rfl) L.z_len PySem.boot_len (pa_cons (pv 0) pa_nil)) pe_int (nomark _))
        (pss_one (ps_set (i := 4) sc_law_rows.nd rfl (.inl rfl) (pe_callTy call_int1 (by rfl) L.z_int (by decide +kernel) (pa_cons (pe_ix ix_list (pv 0) (pe_op op_mod (pe_callTy call_int1 (by rfl) L.z_int (by decide +kernel) (pa_cons (pv 3) pa_nil)) (pe_callB call_len_seq (by rfl) L.z_len PySem.boot_len (pa_cons (pv 0) pa_nil))) (fun _ _ => rfl)) pa_nil))))
        pss_nil)
      (pss_cut (ps_if (pt_cmpR op_lt (pv 4) pe_int (nomark _))
        (pss_one (ps_set (i := 4) sc_law_rows.nd rfl (.inl rfl) (pe_op op_sub pe_int (pe_op op_mul pe_int (pv 4)))))
        pss_nil)
      (pss_cut (ps_if (PW.pt (pw_or (pt_cmpR op_ge (pv 3) (pe_callB call_len_seq (by rfl) L.z_len PySem.boot_len (pa_cons (pv 0) pa_nil)) (nomark _)) (pw_or1 (pt_cmpR op_lt (pv 4) pe_int (nomark _)))))
        (pss_cons (ps_set (i := 4) sc_law_rows.nd rfl (.inl rfl) (pe_op op_mod (pe_callTy call_int1 (by rfl) L.z_int (by decide +kernel) (pa_cons (pe_op op_add (pe_op op_mul (pe_op op_add (pe_op op_add (pv 4) (pe_op op_mul pe_int (pv 3))) pe_int) pe_int) (pe_op op_mul (pe_op op_mul (pv 3) (pv 3)) pe_int)) pa_nil)) pe_int))
      (pss_one (ps_set (i := 4) sc_law_rows.nd rfl (.inl rfl) (pe_op op_mod (pe_callTy call_int1 (by rfl) L.z_int (by decide +kernel) (pa_cons (pe_op op_mul (pe_op op_add (pe_op op_add (pv 4) (pe_op op_mul pe_int (pv 3))) pe_int) pe_int) pa_nil)) pe_int))))
        pss_nil)
      (pss_one (ps_expr (pe_bm PySem.F.plainAttrs_list PySem.F.slot_list_append PySem.F.type_list_append mt_append (pv 2) (pa_cons (pv 4) pa_nil)))))))))
      (pss_one (ps_ret (pv 2))))), ?_⟩
    refine ⟨Nat.zero_le _, fun D nD => ?_⟩
    refine ⟨_, rfl, _, rfl, by omega, by omega, for_range (n := n) (fun j σ H' => ∃ (y3 y4 : Option V) (ns : List Int), σ = [some (.ref a), some (.int (n : Nat)), some (.ref D), y3, y4] ∧ Same H H' ∧ H' D = some (.lst (ns.map V.int)) ∧ ns.length = j) ⟨none, none, [], rfl, same_upd nD, upd_same, rfl⟩ ?_ ?_⟩
    · rintro j σ H1 hj ⟨y3, y4, ns, rfl, k1, e1, hl⟩
      rw [Int.zero_add]
      have sA : SqL K H1 a (xs.map V.int) := k1.seq hS
      let M : List (Option V) → Hp → Prop := fun σ' H' => ∃ c : Int, σ' = [some (.ref a), some (.int (n : Nat)), some (.ref D), some (.int (j : Nat)), some (.int c)] ∧ H' = H1
      have lx : ((xs.map V.int).length : Nat) = xs.length := List.length_map _
      refine ⟨M, ⟨_, rfl, a, _, rfl, .inl sA, _, _, rfl, rfl, _, rfl, ite2 (fun e => ?_) (fun e => ⟨0, rfl, rfl⟩)⟩, ?_⟩
      · have e : (0 : Int) < ((xs.map V.int).length : Nat) := of_decide_eq_true e
        rw [lx] at e
        have m0 : (0 : Int) ≤ ((j : Nat) : Int) % ((xs.length : Nat) : Int) := Int.emod_nonneg _ (by omega)
        have m1 : ((j : Nat) : Int) % ((xs.length : Nat) : Int) < ((xs.length : Nat) : Int) := Int.emod_lt_of_pos _ (by omega)
        obtain ⟨r, hr2⟩ : ∃ r : Nat, ((j : Nat) : Int) % ((xs.length : Nat) : Int) = (r : Int) := ⟨_, (Int.toNat_of_nonneg m0).symm⟩
        have hrn : r < xs.length := by omega
        refine ⟨_, rfl, _, rfl, .inl ⟨_, rfl, _, rfl, a, _, rfl, .inl sA, _, _, rfl, rfl, (by show (0 : Int) < ((xs.map V.int).length : Nat); rw [lx]; exact e), a, _, _, V.int xs[r], rfl, rfl, sA, ?_, .inl ⟨_, rfl, xs[r], rfl, rfl⟩⟩⟩
        rw [lx, hr2]
        refine atI_nat ?_
        rw [List.getElem?_map, List.getElem?_eq_getElem hrn]
        rfl
      rintro σ H2 ⟨c, rfl, rfl⟩
      refine ⟨M, ⟨_, rfl, _, _, rfl, rfl, _, rfl, ite2 (fun e => ?_) (fun e => ⟨c, rfl, rfl⟩)⟩, ?_⟩
      · exact ⟨_, rfl, _, _, rfl, rfl, .inl ⟨by decide, by decide⟩, _, _, rfl, rfl, _, rfl, rfl⟩
      rintro σ H2 ⟨c, rfl, rfl⟩
      refine ⟨M, ?_, ?_⟩
      · refine ⟨_, rfl, _, rfl, a, _, rfl, .inl sA, _, _, rfl, rfl, _, rfl, ite_or (fun e => iteT ?_) fun e => ?_⟩
        · exact ⟨_, rfl, _, rfl, _, _, rfl, rfl, .inl ⟨by decide, by decide⟩, _, _, rfl, rfl, _, _, rfl, rfl, _, _, rfl, rfl, .inr ⟨by decide, by decide⟩, _, rfl, _, rfl, _, _, rfl, rfl, .inl ⟨by omega, by omega⟩, _, _, rfl, rfl, .inr ⟨by decide, by decide⟩, _, _, rfl, rfl, .inl ⟨_, rfl, _, _, rfl, rfl, (by show (0 : Int) < 1000000007; decide), _, rfl, _, rfl, _, _, rfl, rfl, .inl ⟨by decide, by decide⟩, _, _, rfl, rfl, _, _, rfl, rfl, _, _, rfl, rfl, .inr ⟨by decide, by decide⟩, .inl ⟨_, rfl, _, _, rfl, rfl, (by show (0 : Int) < 18446744073709551557; decide), _, rfl, rfl⟩⟩⟩
        · refine ⟨_, rfl, _, _, rfl, rfl, _, rfl, ite2 (fun e2 => ?_) fun e2 => ⟨c, rfl, rfl⟩⟩
          exact ⟨_, rfl, _, rfl, _, _, rfl, rfl, .inl ⟨by decide, by decide⟩, _, _, rfl, rfl, _, _, rfl, rfl, _, _, rfl, rfl, .inr ⟨by decide, by decide⟩, _, rfl, _, rfl, _, _, rfl, rfl, .inl ⟨by omega, by omega⟩, _, _, rfl, rfl, .inr ⟨by decide, by decide⟩, _, _, rfl, rfl, .inl ⟨_, rfl, _, _, rfl, rfl, (by show (0 : Int) < 1000000007; decide), _, rfl, _, rfl, _, _, rfl, rfl, .inl ⟨by decide, by decide⟩, _, _, rfl, rfl, _, _, rfl, rfl, _, _, rfl, rfl, .inr ⟨by decide, by decide⟩, .inl ⟨_, rfl, _, _, rfl, rfl, (by show (0 : Int) < 18446744073709551557; decide), _, rfl, rfl⟩⟩⟩
      rintro σ H2 ⟨c, rfl, rfl⟩
      refine ⟨_, rfl, .inl ⟨rfl, _, SqL.of e1⟩, _, rfl, D, _, _, rfl, rfl, e1, Nat.lt_of_le_of_lt (m := 1000) (by rw [List.length_map]; omega) (by decide), _, _, ns ++ [c], rfl, fun b u e => ?_, ?_, by rw [List.length_append, hl]; rfl⟩
      · rw [upd_ne (ne_of_none e nD)]; exact k1 _ _ e
      · rw [upd_same, List.map_append]; rfl
    · rintro σ H1 ⟨y3, y4, ns, rfl, k1, e1, hl⟩
      exact ⟨_, rfl, q H1 D ns k1 nD e1 hl⟩
end
end My
namespace My
open PySem L2 SX XT XS XE XD XL
open C8 (pss_cut tCut cutS_slice pe_gc)
theorem op_mul_str {X : Cx} : OpR X (binaryOp .Mult) (fun x y H Q => ∃ z n, x = .str z ∧ y = .int n ∧ MulOk z n ∧ Q (.str (Txt.mul z n)) H) := by
  intro pins s σ H x y v u Q I rx ry h
  obtain ⟨z, n, rfl, rfl, hz, q⟩ := h
  obtain ⟨t, rfl⟩ := rx
  obtain ⟨t', rfl⟩ := ry
  exact SB.mul hz (fun t' tk => ⟨.str (Txt.mul z n), H, I.tok _, ⟨_, rfl⟩, q⟩)
def big : Int := 10 ^ 300 - 1
def t30 : Int := 1000000000000000000000000000000
theorem pow30 : ∀ j, j < 10 → (t30 ^ j).natAbs < 2 ^ 1000 := by decide +kernel
theorem pow30s (j : Nat) : t30 ^ j * 1000000000000000000000000000000 = t30 ^ (j + 1) := (Int.pow_succ t30 j).symm
section
variable {P : Program} {w : World} {K : PySem.W.Frag} {mg : Str → Option Value} {base : Heap} {A : Ads}
def spBig : Sp := fun vs H Q _ => vs = [] ∧ Q (.int big) H
theorem ok_law_greatest (L : Lib P K mg A) : FnOk P w K mg base CX0 1 L.law_greatest.f L.law_greatest.fd [] spBig := by
  refine L.law_greatest.F.ok sc_law_greatest (fun vs H Q E h => ?_) (fun cdv A' outer s H vs Q E hr h => ?_)
  · obtain ⟨rfl, _⟩ := h
    rfl
  · obtain ⟨rfl, q⟩ := h
    refine ⟨_, (pss_cons (ps_set (i := 0) sc_law_greatest.nd rfl (.inl rfl) pe_int)
      (pss_cons (ps_for PassesOwn.never rfl (pi_range1 (by rfl) L.z_range (pa_cons pe_int pa_nil)) (pg_name (i := 1) sc_law_greatest.nd rfl (.inl rfl))
        (pss_one (ps_set (i := 0) sc_law_greatest.nd rfl (.inl rfl) (pe_op op_mulW (pv 0) pe_int))))
      (pss_one (ps_ret (pe_op op_sub (pv 0) pe_int))))), ?_⟩
    refine ⟨_, rfl, by decide, by decide, for_range (n := 10) (fun j σ H' => ∃ y1 : Option V, σ = [some (.int (t30 ^ j)), y1] ∧ H' = H) ⟨none, rfl, rfl⟩ ?_ ?_⟩
    · rintro j σ H1 hj ⟨y1, rfl, rfl⟩
      refine ⟨_, rfl, _, _, rfl, rfl, wide_mul (a := 1000) (b := 110) (pow30 j hj) (by decide) (by decide) (by decide) (by decide), some (.int (0 + (j : Nat))), ?_, rfl⟩
      dsimp only
      rw [pow30s]
      rfl
    · rintro σ H1 ⟨y1, rfl, rfl⟩
      refine ⟨_, rfl, _, _, rfl, rfl, ?_⟩
      have : t30 ^ 10 - 1 = big := by decide +kernel
      show Q (.int (t30 ^ 10 - 1)) H1
      rw [this]
      exact q
def spInt : Sp := fun vs H Q _ => ∃ (p l : Addr) (ns : List Int) (b : Nat), vs = [.ref p] ∧ Dr H p l ns b ∧ b + 2 ≤ 100000 ∧ ∀ H' (i : Int), Keep p H H' → Dr H' p l ns (b + 2) → i.natAbs.log2 < 997 → Q (.int i) H'
theorem ok_law_integer (L : Lib P K mg A) : FnOk P w K mg base CX0 2 L.law_integer.f L.law_integer.fd ["state"] spInt := by
  have G_law_draw : FnOk P w K mg base CX0 1 L.law_draw.f L.law_draw.fd ["state", "count_v"] spDr := ok_law_draw L
  have G_law_greatest : FnOk P w K mg base CX0 1 L.law_greatest.f L.law_greatest.fd [] spBig := ok_law_greatest L
  refine L.law_integer.F.ok sc_law_integer (fun vs H Q E h => ?_) (fun cdv A' outer s H vs Q E hr h => ?_)
  · obtain ⟨p, l, ns, b, rfl, _⟩ := h
    rfl
  · obtain ⟨p, l, ns, b, rfl, hD, hb, q⟩ := h
    refine ⟨_, (pss_cons (ps_set (i := 1) sc_law_integer.nd rfl (.inl rfl) (pe_call G_law_draw (hr.mono (by omega)) (by rfl) L.law_draw.g L.law_draw.F.kp L.law_draw.b .nil pass0 (pa_cons (pv 0) (pa_cons pe_int pa_nil))))
      (pss_cons (ps_if (pt_cmpR op_eq (pv 1) pe_int (nomark _))
        (pss_one (ps_ret (pe_op op_sub (pe_call0 G_law_greatest (hr.mono (by omega)) (by rfl) L.law_greatest.g L.law_greatest.F.kp L.law_greatest.b .nil pass0) (pe_call G_law_draw (hr.mono (by omega)) (by rfl) L.law_draw.g L.law_draw.F.kp L.law_draw.b .nil pass0 (pa_cons (pv 0) (pa_cons pe_int pa_nil))))))
        pss_nil)
      (pss_cons (ps_if (pt_cmpR op_eq (pv 1) pe_int (nomark _))
        (pss_one (ps_ret (pe_op op_sub (pe_call G_law_draw (hr.mono (by omega)) (by rfl) L.law_draw.g L.law_draw.F.kp L.law_draw.b .nil pass0 (pa_cons (pv 0) (pa_cons pe_int pa_nil))) (pe_call0 G_law_greatest (hr.mono (by omega)) (by rfl) L.law_greatest.g L.law_greatest.F.kp L.law_greatest.b .nil pass0))))
        pss_nil)
      (pss_one (ps_ret (pe_op op_sub (pe_call G_law_draw (hr.mono (by omega)) (by rfl) L.law_draw.g L.law_draw.F.kp L.law_draw.b .nil pass0 (pa_cons (pv 0) (pa_cons pe_int pa_nil))) pe_int)))))), ?_⟩
    refine ⟨_, rfl, p, l, ns, b, 6, rfl, hD, by omega, by decide, fun H1 r k1 D1 hr1 => ?_⟩
    have D1' := D1.le (c := b + 2) (by omega) hb
    refine ⟨_, rfl, rfl, _, rfl, ite_or (fun e => ?_) fun e => ?_⟩
    · refine ⟨rfl, _, rfl, p, l, ns, b + 1, 3, rfl, D1, by omega, by decide, fun H2 r2 k2 D2 h2 => ⟨_, _, rfl, rfl, ?_⟩⟩
      refine q H2 _ (k1.trans k2) D2 ?_
      have : ∀ r : Nat, r < 3 → (big - (r : Int)).natAbs.log2 < 997 := by decide +kernel
      exact this r2 h2
    refine ⟨_, rfl, rfl, _, rfl, ite_or (fun e => ?_) fun e => ?_⟩
    · refine ⟨_, rfl, p, l, ns, b + 1, 3, rfl, D1, by omega, by decide, fun H2 r2 k2 D2 h2 => ⟨rfl, _, _, rfl, rfl, ?_⟩⟩
      refine q H2 _ (k1.trans k2) D2 ?_
      have : ∀ r : Nat, r < 3 → ((r : Int) - big).natAbs.log2 < 997 := by decide +kernel
      exact this r2 h2
    · refine ⟨_, rfl, p, l, ns, b + 1, 21, rfl, D1, by omega, by decide, fun H2 r2 k2 D2 h2 => ⟨_, _, rfl, rfl, ?_⟩⟩
      refine q H2 _ (k1.trans k2) D2 ?_
      have : ∀ r : Nat, r < 21 → ((r : Int) - 10).natAbs.log2 < 997 := by decide +kernel
      exact this r2 h2
theorem z_ok : ∀ r : Nat, r < 300 → MulOk "Z" (r : Int) ∧ (Txt.mul "Z" (r : Int)).length ≤ 300 := by
  unfold MulOk
  decide +kernel
def spWord (K : PySem.W.Frag) : Sp := fun vs H Q _ => ∃ (p l : Addr) (ns : List Int) (b : Nat), vs = [.ref p] ∧ Dr H p l ns b ∧ b + 2 ≤ 100000 ∧ ∀ H' (x : Str), Keep p H H' → Dr H' p l ns (b + 2) → x.length ≤ 300 → Q (.str x) H'
theorem ok_law_word (L : Lib P K mg A) : FnOk P w K mg base CX0 2 L.law_word.f L.law_word.fd ["state"] (spWord K) := by
  have G_law_draw : FnOk P w K mg base CX0 1 L.law_draw.f L.law_draw.fd ["state", "count_v"] spDr := ok_law_draw L
  refine L.law_word.F.ok sc_law_word (fun vs H Q E h => ?_) (fun cdv A' outer s H vs Q E hr h => ?_)
  · obtain ⟨p, l, ns, b, rfl, _⟩ := h
    rfl
  · obtain ⟨p, l, ns, b, rfl, hD, hb, q⟩ := h
    refine ⟨_, (pss_one (ps_ret (pe_ix ix_list (pe_lst (pa_cons pe_str (pa_cons pe_str (pa_cons pe_str (pa_cons pe_str (pa_cons pe_str (pa_cons pe_str (pa_cons pe_str (pa_cons pe_str (pa_cons (pe_op op_mul_str pe_str (pe_call G_law_draw (hr.mono (by omega)) (by rfl) L.law_draw.g L.law_draw.F.kp L.law_draw.b .nil pass0 (pa_cons (pv 0) (pa_cons pe_int pa_nil)))) pa_nil)))))))))) (pe_call G_law_draw (hr.mono (by omega)) (by rfl) L.law_draw.g L.law_draw.F.kp L.law_draw.b .nil pass0 (pa_cons (pv 0) (pa_cons pe_int pa_nil))) (fun _ _ => rfl)))), ?_⟩
    refine ⟨_, rfl, p, l, ns, b, 300, rfl, hD, by omega, by decide, fun H1 r k1 D1 hr1 => ?_⟩
    obtain ⟨m1, m2⟩ := z_ok r hr1
    refine ⟨_, _, rfl, rfl, m1, by show 9 ≤ sizeLine; decide, fun T nT => ?_⟩
    have s2 := same_upd (o := .lst [.str "", .str "a", .str "B", .str "ab", .str "b", .str " ", .str "~", .str "a\n", .str (Txt.mul "Z" (r : Int))]) nT
    refine ⟨_, rfl, p, l, ns, b + 1, 9, rfl, D1.same s2, by omega, by decide, fun H2 r2 k2 D2 h2 => ?_⟩
    obtain ⟨kp, _, ep⟩ := D1.p_
    have TD : T ≠ p := (ne_of_none ep nT).symm
    have eT := k2 _ _ (show upd H1 T (.lst [.str "", .str "a", .str "B", .str "ab", .str "b", .str " ", .str "~", .str "a\n", .str (Txt.mul "Z" (r : Int))]) T = _ from upd_same) TD
    have eL : ([.str "", .str "a", .str "B", .str "ab", .str "b", .str " ", .str "~", .str "a\n", .str (Txt.mul "Z" (r : Int))] : List V) = (["", "a", "B", "ab", "b", " ", "~", "a\n", Txt.mul "Z" (r : Int)] : List Str).map V.str := rfl
    have all : ∀ x ∈ (["", "a", "B", "ab", "b", " ", "~", "a\n", Txt.mul "Z" (r : Int)] : List Str), x.length ≤ 300 := by
      have h8 : ∀ x ∈ (["", "a", "B", "ab", "b", " ", "~", "a\n"] : List Str), x.length ≤ 300 := by decide +kernel
      intro x hx
      rcases List.mem_append.mp (show x ∈ (["", "a", "B", "ab", "b", " ", "~", "a\n"] : List Str) ++ [Txt.mul "Z" (r : Int)] from hx) with h | h
      · exact h8 x h
      · rw [List.mem_singleton.mp h]; exact m2
    generalize (["", "a", "B", "ab", "b", " ", "~", "a\n", Txt.mul "Z" (r : Int)] : List Str) = xs at eL all
    have lx : xs.length = 9 := by
      have := congrArg List.length eL
      rw [List.length_map] at this
      exact this.symm
    refine ⟨T, _, _, V.str xs[r2], rfl, rfl, SqL.of eT, ?_, q H2 _ ((k1.trans (My.Same.keep s2)).trans k2) D2 (all _ (List.getElem_mem _))⟩
    rw [eL]
    refine atI_nat ?_
    rw [List.getElem?_map, List.getElem?_eq_getElem (by omega)]
    rfl
end
end My
namespace My
open PySem L2 SX XT XS XE XD XL
open C8 (pss_cut tCut cutS_slice pe_gc)
def okP : Dv → Prop
  | .obj n => n < 3
  | .str x => x.length ≤ 300
  | .int i => i.natAbs.log2 < 997
  | _ => True
section
variable {P : Program} {w : World} {K : PySem.W.Frag} {mg : Str → Option Value} {base : Heap} {A : Ads}
def spPart (K : PySem.W.Frag) (A : Ads) : Sp := fun vs H Q _ => ∃ (p l : Addr) (ns : List Int) (b kind : Nat), vs = [.ref p, .int (kind : Nat)] ∧ Dr H p l ns b ∧ b + 4 ≤ 100000 ∧ ∀ H' v d, Keep p H H' → Dr H' p l ns (b + 4) → Has A H' v d → okP d → Q v H'
theorem ok_law_part (L : Lib P K mg A) : FnOk P w K mg base CX0 3 L.law_part.f L.law_part.fd ["state", "kind"] (spPart K A) := by
  have G_law_draw : FnOk P w K mg base CX0 1 L.law_draw.f L.law_draw.fd ["state", "count_v"] spDr := ok_law_draw L
  have G_law_integer : FnOk P w K mg base CX0 2 L.law_integer.f L.law_integer.fd ["state"] spInt := ok_law_integer L
  have G_law_word : FnOk P w K mg base CX0 2 L.law_word.f L.law_word.fd ["state"] (spWord K) := ok_law_word L
  have G_Ref_init : FnOk P w K mg base CX0 1 L.Ref_init.f L.Ref_init.fd ["self", "number"] (spI1 A.Ref "number") := ok_Ref_init L
  have G_Builtin_init : FnOk P w K mg base CX0 1 L.Builtin_init.f L.Builtin_init.fd ["self", "name"] (spI1 A.Builtin "name") := ok_Builtin_init L
  refine L.law_part.F.ok sc_law_part (fun vs H Q E h => ?_) (fun cdv A' outer s H vs Q E hr h => ?_)
  · obtain ⟨p, l, ns, b, kind, rfl, _⟩ := h
    rfl
  · obtain ⟨p, l, ns, b, kind, rfl, hD, hb, q⟩ := h
    refine ⟨_, (pss_cut (ps_if (PW.pt (pw_or (pt_cmpR op_eq (pv 1) pe_int (nomark _)) (pw_or1 (PW.pt (pw_and (pt_cmpR op_eq (pv 1) pe_int (nomark _)) (pw_and1 (pt_cmpR op_eq (pe_call G_law_draw (hr.mono (by omega)) (by rfl) L.law_draw.g L.law_draw.F.kp L.law_draw.b .nil pass0 (pa_cons (pv 0) (pa_cons pe_int pa_nil))) pe_int (nomark _))))))))
        (pss_one (ps_ret (pe_call G_law_integer (hr.mono (by omega)) (by rfl) L.law_integer.g L.law_integer.F.kp L.law_integer.b .nil pass0 (pa_cons (pv 0) pa_nil))))
        pss_nil)
      (pss_cut (ps_if (PW.pt (pw_or (pt_cmpR op_eq (pv 1) pe_int (nomark _)) (pw_or1 (PW.pt (pw_and (pt_cmpR op_eq (pv 1) pe_int (nomark _)) (pw_and1 (pt_cmpR op_eq (pe_call G_law_draw (hr.mono (by omega)) (by rfl) L.law_draw.g L.law_draw.F.kp L.law_draw.b .nil pass0 (pa_cons (pv 0) (pa_cons pe_int pa_nil))) pe_int (nomark _))))))))
        (pss_one (ps_ret (pe_call G_law_word (hr.mono (by omega)) (by rfl) L.law_word.g L.law_word.F.kp L.law_word.b .nil pass0 (pa_cons (pv 0) pa_nil))))
        pss_nil)
      (pss_one (ps_ret (pe_ix ix_list (pe_lst (pa_cons pe_non (pa_cons pe_bl (pa_cons pe_bl (pa_cons (pe_make L.Ref_init.m G_Ref_init (hr.mono (by omega)) (by rfl) L.c_Ref.g L.Ref_init.b .nil pass0 (pa_cons pe_int pa_nil)) (pa_cons (pe_make L.Ref_init.m G_Ref_init (hr.mono (by omega)) (by rfl) L.c_Ref.g L.Ref_init.b .nil pass0 (pa_cons pe_int pa_nil)) (pa_cons (pe_make L.Ref_init.m G_Ref_init (hr.mono (by omega)) (by rfl) L.c_Ref.g L.Ref_init.b .nil pass0 (pa_cons pe_int pa_nil)) (pa_cons (pe_make L.Builtin_init.m G_Builtin_init (hr.mono (by omega)) (by rfl) L.c_Builtin.g L.Builtin_init.b .nil pass0 (pa_cons pe_str pa_nil)) (pa_cons pe_str (pa_cons pe_int pa_nil)))))))))) (pe_call G_law_draw (hr.mono (by omega)) (by rfl) L.law_draw.g L.law_draw.F.kp L.law_draw.b .nil pass0 (pa_cons (pv 0) (pa_cons pe_int pa_nil))) (fun _ _ => rfl)))))), ?_⟩
    have I : ∀ (H1 : Hp) (c : Nat), c ≤ b + 2 → Keep p H H1 → Dr H1 p l ns c → spInt [.ref p] H1 Q E := fun H1 c hc k1 D1 => ⟨p, l, ns, c, rfl, D1, by omega, fun H2 i k2 D2 hi => q H2 _ (.int i) (k1.trans k2) (D2.le (by omega) hb) rfl hi⟩
    have W : ∀ (H1 : Hp) (c : Nat), c ≤ b + 2 → Keep p H H1 → Dr H1 p l ns c → spWord K [.ref p] H1 Q E := fun H1 c hc k1 D1 => ⟨p, l, ns, c, rfl, D1, by omega, fun H2 i k2 D2 hi => q H2 _ (.str i) (k1.trans k2) (D2.le (by omega) hb) rfl hi⟩
    let M : Nat → List (Option V) → Hp → Prop := fun i σ' H' => ∃ c, c ≤ b + i ∧ σ' = [some (.ref p), some (.int (kind : Nat))] ∧ Keep p H H' ∧ Dr H' p l ns c
    have k0 : Keep p H H := fun _ _ e _ => e
    refine ⟨M 1, ⟨_, rfl, rfl, _, rfl, ite_or (fun e => iteT ⟨_, rfl, I H b (by omega) k0 hD⟩) fun e0 => ?_⟩, ?_⟩
    · refine ⟨_, rfl, rfl, _, rfl, ite_or (fun e2 => ?_) fun e2 => iteF ⟨b, by omega, rfl, k0, hD⟩⟩
      refine ⟨_, rfl, p, l, ns, b, 2, rfl, hD, by omega, by decide, fun H1 r k1 D1 h1 => ⟨rfl, _, rfl, ite2 (fun _ => ⟨_, rfl, I H1 (b + 1) (by omega) k1 D1⟩) fun _ => ⟨b + 1, by omega, rfl, k1, D1⟩⟩⟩
    rintro σ H1 ⟨c, hc, rfl, k1, D1⟩
    refine ⟨M 2, ⟨_, rfl, rfl, _, rfl, ite_or (fun e => iteT ⟨_, rfl, W H1 c (by omega) k1 D1⟩) fun e0 => ?_⟩, ?_⟩
    · refine ⟨_, rfl, rfl, _, rfl, ite_or (fun e2 => ?_) fun e2 => iteF ⟨c, by omega, rfl, k1, D1⟩⟩
      refine ⟨_, rfl, p, l, ns, c, 2, rfl, D1, by omega, by decide, fun H2 r k2 D2 h2 => ⟨rfl, _, rfl, ite2 (fun _ => ⟨_, rfl, W H2 (c + 1) (by omega) (k1.trans k2) D2⟩) fun _ => ⟨c + 1, by omega, rfl, k1.trans k2, D2⟩⟩⟩
    rintro σ H2 ⟨c2, hc2, rfl, k2, D2⟩
    intro x0 d0 nx0 nd0 ndx0
    refine ⟨x0, d0, _, rfl, upd_same, fun H3 k3 hx0 => ⟨rfl, ?_⟩⟩
    have s3 := Same.made nx0 nd0 k3
    intro x1 d1 nx1 nd1 ndx1
    refine ⟨x1, d1, _, rfl, upd_same, fun H4 k4 hx1 => ⟨rfl, ?_⟩⟩
    have s4 := Same.made nx1 nd1 k4
    intro x2 d2 nx2 nd2 ndx2
    refine ⟨x2, d2, _, rfl, upd_same, fun H5 k5 hx2 => ⟨rfl, ?_⟩⟩
    have s5 := Same.made nx2 nd2 k5
    intro x3 d3 nx3 nd3 ndx3
    refine ⟨x3, d3, _, rfl, upd_same, fun H6 k6 hx3 => ⟨rfl, ?_⟩⟩
    have s6 := Same.made nx3 nd3 k6
    refine ⟨by show 9 ≤ sizeLine; decide, fun T nT => ?_⟩
    have s7 := same_upd (o := .lst [.non, .bl true, .bl false, .ref x0, .ref x1, .ref x2, .ref x3, .str "x", .int 7]) nT
    have s27 := (((s3.trans s4).trans s5).trans s6).trans s7
    have D7 := D2.same s27
    refine ⟨_, rfl, p, l, ns, c2, 9, rfl, D7, by omega, by decide, fun H8 r8 k8 D8 h8 => ?_⟩
    obtain ⟨kp, _, ep⟩ := D2.p_
    have ep6 := s6 _ _ (s5 _ _ (s4 _ _ (s3 _ _ ep)))
    have TD : T ≠ p := (ne_of_none ep6 nT).symm
    have eT := k8 _ _ (show upd H6 T (.lst [.non, .bl true, .bl false, .ref x0, .ref x1, .ref x2, .ref x3, .str "x", .int 7]) T = _ from upd_same) TD
    have nins : ∀ (b : Addr) C dx fs, upd H6 T (.lst [.non, .bl true, .bl false, .ref x0, .ref x1, .ref x2, .ref x3, .str "x", .int 7]) b = some (.ins C dx fs) → H8 b = some (.ins C dx fs) := fun b C dx fs e => k8 _ _ e fun z => by
      have := s27 _ _ ep
      rw [← z, e] at this
      cases this
    have hs : Hs A H8 [.non, .bl true, .bl false, .ref x0, .ref x1, .ref x2, .ref x3, .str "x", .int 7] [.non, .bl true, .bl false, .obj 0, .obj 1, .obj 2, .bi "len", .str "x", .int 7] :=
      ⟨rfl, rfl, rfl, ⟨x0, d0, rfl, nins _ _ _ _ (s7 _ _ (s6 _ _ (s5 _ _ (s4 _ _ hx0))))⟩, ⟨x1, d1, rfl, nins _ _ _ _ (s7 _ _ (s6 _ _ (s5 _ _ hx1)))⟩, ⟨x2, d2, rfl, nins _ _ _ _ (s7 _ _ (s6 _ _ hx2))⟩, ⟨x3, d3, rfl, nins _ _ _ _ (s7 _ _ hx3)⟩, rfl, rfl, trivial⟩
    have all : ∀ d ∈ ([.non, .bl true, .bl false, .obj 0, .obj 1, .obj 2, .bi "len", .str "x", .int 7] : List Dv), okP d := by
      intro d hd
      simp only [List.mem_cons, List.not_mem_nil, or_false] at hd
      rcases hd with rfl | rfl | rfl | rfl | rfl | rfl | rfl | rfl | rfl
      · trivial
      · trivial
      · trivial
      · exact (by decide : (0 : Nat) < 3)
      · exact (by decide : (1 : Nat) < 3)
      · exact (by decide : (2 : Nat) < 3)
      · trivial
      · show ("x" : Str).length ≤ 300; decide +kernel
      · show (7 : Int).natAbs.log2 < 997; decide +kernel
    obtain ⟨v, hv, hvd⟩ := hs.at (i := r8) (List.getElem?_eq_getElem (by show r8 < 9; exact h8))
    have k28 : Keep p H H8 := (k2.trans (My.Same.keep s27)).trans k8
    exact ⟨T, _, _, v, rfl, rfl, SqL.of eT, atI_nat hv, q H8 v _ k28 (D8.le (by omega) hb) hvd (all _ (List.getElem_mem _))⟩
end
end My
namespace My
open PySem L2 SX XT XS XE XD XL
open C8 (pss_cut tCut cutS_slice pe_gc)
def long (k : Nat) : Int := (k : Int) * 7919 / 3 - (k : Int) * (k : Int)
section
variable {P : Program} {w : World} {K : PySem.W.Frag} {mg : Str → Option Value} {base : Heap} {A : Ads}
theorem keep_vk {H H' : Hp} {p : Addr} {kvs : List (Key × V)} (hp : H p = some (.dK kvs)) (k : Keep p H H') : Vk A H H' := by
  have go : ∀ b w, H b = some w → w ≠ .dK kvs → H' b = some w := fun b w e n => k b w e fun z => by
    rw [z, hp] at e
    exact n (Option.some.inj e).symm
  refine ⟨fun v d h => ?_, fun q xs e => go q _ e nofun⟩
  cases d with
  | obj n =>
    obtain ⟨b, dx, rfl, e⟩ := h
    exact ⟨b, dx, rfl, go b _ e nofun⟩
  | bi n =>
    obtain ⟨b, dx, rfl, e⟩ := h
    exact ⟨b, dx, rfl, go b _ e nofun⟩
  | _ => exact h
theorem Dr.keep {H H' : Hp} {p l D : Addr} {ns : List Int} {b : Nat} (d : Dr H p l ns b) (k : Keep D H H') (np : D ≠ p) (nl : D ≠ l) : Dr H' p l ns b := by
  obtain ⟨j, h, e⟩ := d.p_
  exact ⟨⟨j, h, k _ _ e np.symm⟩, k _ _ d.l_ nl.symm, d.n0, d.nz, d.b_⟩
theorem hs_ints {H : Hp} (f : Nat → Int) : ∀ r : List Nat, Hs A H (r.map fun k => V.int (f k)) (r.map fun k => Dv.int (f k))
  | [] => trivial
  | _ :: r => ⟨rfl, hs_ints f r⟩
theorem keep_none {H H' : Hp} {p D : Addr} {u : HO} (k : Keep p H H') (hp : H' p = some u) (n : H' D = none) : H D = none := by
  cases e : H D with
  | none => rfl
  | some v =>
    have np : D ≠ p := fun z => by rw [z, hp] at n; cases n
    rw [k _ _ e np] at n
    cases n
def spParts (K : PySem.W.Frag) (A : Ads) : Sp := fun vs H Q _ => ∃ (p l : Addr) (ns : List Int) (b : Nat), vs = [.ref p] ∧ Dr H p l ns b ∧ b + 50 ≤ 100000 ∧ ∀ H' l2 us ds, Keep p H H' → Dr H' p l ns (b + 50) → H l2 = none → H' l2 = some (.lst us) → Hs A H' us ds → ((ds.length < 10 ∧ ∀ d ∈ ds, okP d) ∨ ∃ n, 994 ≤ n ∧ n ≤ 1000 ∧ ds = (List.range n).map fun k => .int (long k)) → Q (.ref l2) H'
theorem ok_law_parts (L : Lib P K mg A) : FnOk P w K mg base CX0 4 L.law_parts.f L.law_parts.fd ["state"] (spParts K A) := by
  have G_law_draw : FnOk P w K mg base CX0 1 L.law_draw.f L.law_draw.fd ["state", "count_v"] spDr := ok_law_draw L
  have G_law_part : FnOk P w K mg base CX0 3 L.law_part.f L.law_part.fd ["state", "kind"] (spPart K A) := ok_law_part L
  refine L.law_parts.F.ok sc_law_parts (fun vs H Q E h => ?_) (fun cdv A' outer s H vs Q E hr h => ?_)
  · obtain ⟨p, l, ns, b, rfl, _⟩ := h
    rfl
  · obtain ⟨p, l, ns, b, rfl, hD, hb, q⟩ := h
    refine ⟨_, (pss_cons (ps_set (i := 1) sc_law_parts.nd rfl (.inr rfl) (pe_call G_law_draw (hr.mono (by omega)) (by rfl) L.law_draw.g L.law_draw.F.kp L.law_draw.b .nil pass0 (pa_cons (pv 0) (pa_cons pe_int pa_nil))))
      (pss_cons (ps_if (pt_cmpR op_eq (pe_call G_law_draw (hr.mono (by omega)) (by rfl) L.law_draw.g L.law_draw.F.kp L.law_draw.b .nil pass0 (pa_cons (pv 0) (pa_cons pe_int pa_nil))) pe_int (nomark _))
        (pss_one (ps_ret (pe_lc (own := [("k", 2)]) (g := gName 2) (tt := tYes) (by rfl) sc_law_parts.nd (pi_range1 (by rfl) L.z_range (pa_cons (pe_op op_add pe_int (pe_call G_law_draw (hr.mono (by omega)) (by rfl) L.law_draw.g L.law_draw.F.kp L.law_draw.b .nil pass0 (pa_cons (pv 0) (pa_cons pe_int pa_nil)))) pa_nil)) (blkOk_by (own := [("k", 2)]) (N := ["state", "kind", "k"]) (sc := defScope (top 127)) (by decide +kernel)) (fun _ _ _ _ _ => (pg_name (i := 2) sc_law_parts.nd rfl (.inl rfl))) (fun _ _ _ _ _ => pts_nil) (fun _ _ _ _ _ => (pe_op op_sub (pe_op op_fdiv (pe_op op_mul (pv 2) pe_int) pe_int) (pe_op op_mul (pv 2) (pv 2)))))))
        pss_nil)
      (pss_one (ps_ret (pe_lc (own := [("k", 2)]) (g := gName 2) (tt := tYes) (by rfl) sc_law_parts.nd (pi_range1 (by rfl) L.z_range (pa_cons (pe_call G_law_draw (hr.mono (by omega)) (by rfl) L.law_draw.g L.law_draw.F.kp L.law_draw.b .nil pass0 (pa_cons (pv 0) (pa_cons pe_int pa_nil))) pa_nil)) (blkOk_by (own := [("k", 2)]) (N := ["state", "kind", "k"]) (sc := defScope (top 127)) (by decide +kernel)) (fun _ _ _ _ _ => (pg_name (i := 2) sc_law_parts.nd rfl (.inl rfl))) (fun _ _ _ _ _ => pts_nil) (fun _ _ _ _ _ => (pe_call G_law_part (hr.mono (by omega)) (by rfl) L.law_part.g L.law_part.F.kp L.law_part.b .nil pass0 (pa_cons (pv 0) (pa_cons (pv 1) pa_nil))))))))), ?_⟩
    refine ⟨_, rfl, p, l, ns, b, 4, rfl, hD, by omega, by decide, fun H1 kind k1 D1 h1 => ?_⟩
    refine ⟨_, rfl, p, l, ns, b + 1, 9, rfl, D1, by omega, by decide, fun H2 r k2 D2 h2 => ⟨rfl, _, rfl, ite2 (fun _ => ?_) fun _ => ?_⟩⟩
    · refine ⟨_, rfl, p, l, ns, b + 2, 7, rfl, D2, by omega, by decide, fun H3 r3 k3 D3 h3 => ?_⟩
      have en : (994 : Int) + ((r3 : Nat) : Int) = ((994 + r3 : Nat) : Int) := by omega
      refine ⟨_, _, rfl, rfl, ?_⟩
      dsimp only
      rw [en]
      refine ⟨_, rfl, by omega, by omega, fun Dl nD => lc_range (lo := 0) (n := 994 + r3) (fun j H' => Same H3 H' ∧ H' Dl = some (.lst ((List.range j).map fun k => V.int (long k)))) ⟨same_upd nD, upd_same⟩ ?_ ?_⟩
      · rintro i H4 hi ⟨s4, e4⟩
        rw [Int.zero_add]
        refine ⟨rfl, _, rfl, _, _, rfl, rfl, .inr ⟨by decide, by decide⟩, _, _, rfl, rfl, ⟨by decide, by decide⟩, _, rfl, _, rfl, _, _, rfl, rfl, .inl ⟨by omega, by omega⟩, _, _, rfl, rfl, _, e4, Nat.lt_of_le_of_lt (m := 1001) (by rw [List.length_map, List.length_range]; omega) (by decide), fun b' u e => ?_, ?_⟩
        · rw [upd_ne (ne_of_none e nD)]; exact s4 _ _ e
        · rw [upd_same, List.range_succ, List.map_append]; rfl
      · rintro H4 ⟨s4, e4⟩
        have k03 : Keep p H H3 := (k1.trans k2).trans k3
        obtain ⟨kp, _, ep⟩ := D3.p_
        exact q H4 Dl _ _ (k03.trans (My.Same.keep s4)) ((D3.same s4).le (by omega) hb) (keep_none k03 ep nD) e4 (hs_ints long _) (.inr ⟨994 + r3, by omega, by omega, rfl⟩)
    · refine ⟨_, rfl, p, l, ns, b + 2, 10, rfl, D2, by omega, by decide, fun H3 n k3 D3 h3 => ?_⟩
      refine ⟨_, rfl, by omega, by omega, fun Dl nD => lc_range (lo := 0) (n := n) (fun j H' => ∃ us ds, Keep p H3 H' ∧ H' Dl = some (.lst us) ∧ Hs A H' us ds ∧ ds.length = j ∧ (∀ d ∈ ds, okP d) ∧ Dr H' p l ns (b + 3 + 4 * j)) ⟨[], [], My.Same.keep (same_upd nD), upd_same, trivial, rfl, nofun, (D3.same (same_upd nD)).le (by omega) (by omega)⟩ ?_ ?_⟩
      · rintro i H4 hi ⟨us, ds, k4, e4, h4, l4, o4, D4⟩
        refine ⟨rfl, _, rfl, _, rfl, p, l, ns, b + 3 + 4 * i, kind, rfl, D4, by omega, fun H5 v d k5 D5 hv od => ?_⟩
        obtain ⟨kp, _, ep⟩ := D3.p_
        have Dp : Dl ≠ p := fun z => by rw [z, ep] at nD; cases nD
        have e5 := k5 _ _ e4 Dp
        have kD : Keep Dl H5 (upd H5 Dl (.lst (us ++ [v]))) := fun b' o e n' => by rw [upd_ne n']; exact e
        have svD := Keep.sv kD e5
        have Dl' : Dl ≠ l := fun z => by rw [z, D3.l_] at nD; cases nD
        obtain ⟨kp4, _, ep4⟩ := D4.p_
        have vk5 : Vk A H4 (upd H5 Dl (.lst (us ++ [v]))) := (keep_vk ep4 k5).trans (Sv.vk svD)
        refine ⟨us, e5, Nat.lt_of_le_of_lt (m := 1000) (by rw [h4.len]; omega) (by decide), us ++ [v], ds ++ [d], fun b' u e n' => ?_, upd_same, (h4.imp fun _ _ h => vk5.v _ _ h).app ⟨hv.sv svD, trivial⟩, by rw [List.length_append, l4]; rfl, fun x hx => ?_, (D5.keep kD Dp Dl').le (by omega) (by omega)⟩
        · have := k5 _ _ (k4 _ _ e n') n'
          rw [upd_ne (ne_of_none e nD)]
          exact this
        · rcases List.mem_append.mp hx with h | h
          · exact o4 _ h
          · rw [List.mem_singleton.mp h]; exact od
      · rintro H4 ⟨us, ds, k4, e4, h4, l4, o4, D4⟩
        have k03 : Keep p H H3 := (k1.trans k2).trans k3
        obtain ⟨kp, _, ep⟩ := D3.p_
        exact q H4 Dl _ _ (k03.trans k4) (D4.le (by omega) hb) (keep_none k03 ep nD) e4 h4 (.inl ⟨by omega, o4⟩)
end
end My
namespace My
open PySem L2 SX XT XS XE XD XL XZ
open C8 (pss_cut tCut cutS_slice pe_gc)
/-- pieces: the same, or both too long -/
def Alike (ps qs : List Str) : Prop := ps = qs ∨ (1000 < szP ps ∧ 1000 < szP qs)
theorem Alike.snoc {ps qs : List Str} (t : Str) (h : Alike ps qs) : Alike (ps ++ [t]) (qs ++ [t]) := by
  rcases h with h | h
  · exact .inl (by rw [h])
  · refine .inr ?_
    rw [szP_snoc, szP_snoc]
    omega
theorem headS_all {m : Nat} {x : Str} (h : x.length ≤ m + 1) : headS m x = x := by
  have hl : x.cps.toList.length = x.length := rfl
  unfold headS cutS
  have e1 : HT.sIx x.length 0 none = 0 := rfl
  have e2 : HT.sIx x.length x.length (some ((m + 1 : Nat) : Int)) = x.length := by
    rw [HT.sIx_nat]
    omega
  rw [e1, e2, Nat.sub_zero, List.drop_zero, ← hl, List.take_length]
theorem plainS_alike {S : St} (hw : WfS S) {d : Dv} (ok : okW S d) : plainS S 1000 d = plainS S 2000 d := by
  unfold plainS
  cases d with
  | str x =>
    have ok : x.length ≤ 1000 := ok
    dsimp only
    rw [headS_all (m := 1000) (by omega), headS_all (m := 2000) (by omega)]
  | obj n =>
    dsimp only
    cases ht : S.things[n]? with
    | none => rfl
    | some t =>
      have o := hw.2 n t ht
      cases t with
      | kin nm par ms =>
        have o : nm.length ≤ 1000 := o
        dsimp only
        rw [headS_all (m := 1000) (by omega), headS_all (m := 2000) (by omega)]
      | inst ow nsx =>
        obtain ⟨k, nm, par, ms, rfl, hk⟩ := o
        have o2 : nm.length ≤ 1000 := hw.2 k _ hk
        have e : nameOf S (.obj k) = nm := by unfold nameOf; simp only [hk]
        dsimp only
        rw [e, headS_all (m := 1000) (by omega), headS_all (m := 2000) (by omega)]
      | _ => rfl
  | _ => rfl
theorem szP_le (ps : List Str) (t : Str) : szP ps ≤ szP (ps ++ [t]) := by rw [szP_snoc]; omega
theorem tailW_mono {f : Dv → List Str → List Str} (hf : ∀ d ps, szP ps ≤ szP (f d ps)) : ∀ (r : List Dv) (ps : List Str), szP ps ≤ szP (tailW f r ps)
  | [], _ => Nat.le_refl _
  | d :: r, ps => Nat.le_trans (Nat.le_trans (szP_le ps _) (hf d _)) (tailW_mono hf r _)
theorem rowW_mono {f : Dv → List Str → List Str} (hf : ∀ d ps, szP ps ≤ szP (f d ps)) : ∀ (r : List Dv) (ps : List Str), szP ps ≤ szP (rowW f r ps)
  | [], _ => Nat.le_refl _
  | d :: r, ps => Nat.le_trans (hf d _) (tailW_mono hf r _)
theorem heldW_mono {m : Nat} {f : Dv → List Str → List Str} (hf : ∀ d ps, szP ps ≤ szP (f d ps)) : ∀ (rs : List (List Dv)) (g : Str) (ps : List Str), szP ps ≤ szP (heldW m f g rs ps)
  | [], _, _ => Nat.le_refl _
  | r :: rs, g, ps => by
    unfold heldW
    split
    · exact Nat.le_refl _
    · exact Nat.le_trans (Nat.le_trans (szP_le ps _) (rowW_mono hf r _)) (heldW_mono hf rs _ _)
theorem wr_mono {S : St} {m : Nat} : ∀ (n : Nat) (ar : List Nat) (d : Dv) (ps : List Str), szP ps ≤ szP (wr S m n ar d ps)
  | 0, _, _, _ => Nat.le_refl _
  | n + 1, ar, d, ps => by
    unfold wr
    split
    · split
      · refine Nat.le_trans ?_ (szP_le _ _)
        split
        · exact Nat.le_trans (szP_le _ _) (szP_le _ _)
        · exact Nat.le_trans (szP_le _ _) (heldW_mono (wr_mono n _) _ _ _)
      · exact szP_le _ _
    · exact szP_le _ _
theorem rowW_alike {S : St} {f g : Dv → List Str → List Str} (h : ∀ d ps qs, okW S d → Alike ps qs → Alike (f d ps) (g d qs)) {r : List Dv} (hr : okRow S r) {ps qs : List Str} (a : Alike ps qs) : Alike (rowW f r ps) (rowW g r qs) := by
  rcases hr with ⟨d, rfl, ok⟩ | ⟨k, d, rfl, _, okk, ok⟩
  · exact h d _ _ ok a
  · exact h d _ _ ok ((h k _ _ okk a).snoc _)
theorem heldW_alike {S : St} {f g : Dv → List Str → List Str} (hf : ∀ d ps, szP ps ≤ szP (f d ps)) (hg : ∀ d ps, szP ps ≤ szP (g d ps)) (h : ∀ d ps qs, okW S d → Alike ps qs → Alike (f d ps) (g d qs)) : ∀ (rs : List (List Dv)) (z : Str) (ps qs : List Str), (∀ r ∈ rs, okRow S r) → Alike ps qs → Alike (heldW 1000 f z rs ps) (heldW 2000 g z rs qs)
  | [], _, _, _, _, a => a
  | r :: rs, z, ps, qs, hr, a => by
    by_cases big : 1000 < szP ps ∧ 1000 < szP qs
    · exact .inr ⟨Nat.lt_of_lt_of_le big.1 (heldW_mono hf _ _ _), Nat.lt_of_lt_of_le big.2 (heldW_mono hg _ _ _)⟩
    · have e : ps = qs := a.resolve_right big
      subst e
      have n1 : ¬ 1000 < szP ps := fun x => big ⟨x, x⟩
      rw [heldW_go n1, heldW_go (m := 2000) (by omega)]
      exact heldW_alike hf hg h rs _ _ _ (fun r h => hr r (List.mem_cons_of_mem _ h)) (rowW_alike h (hr r (List.mem_cons_self ..)) (.inl rfl))
theorem wr_alike {S : St} (hw : WfS S) : ∀ (n : Nat) (ar : List Nat) (d : Dv) (ps qs : List Str), okW S d → Alike ps qs → Alike (wr S 1000 n ar d ps) (wr S 2000 n ar d qs)
  | 0, _, _, _, _, _, a => a
  | n + 1, ar, d, ps, qs, ok, a => by
    unfold wr
    cases ht : thO S d with
    | none =>
      dsimp only
      rw [plainS_alike hw ok]
      exact a.snoc _
    | some t =>
      dsimp only
      by_cases hC : isC t = true
      · rw [if_pos hC, if_pos hC]
        refine Alike.snoc _ ?_
        by_cases hs : numD d ∈ ar ∨ 10 ≤ ar.length
        · rw [if_pos hs, if_pos hs]
          exact (a.snoc _).snoc _
        · rw [if_neg hs, if_neg hs]
          have okt : okT S t := by
            cases d with
            | obj k => exact hw.2 k t ht
            | _ => cases ht
          exact heldW_alike (wr_mono n _) (wr_mono n _) (fun d ps qs => wr_alike hw n _ d ps qs) _ _ _ _ (rows_ok okt) (a.snoc _)
      · rw [if_neg hC, if_neg hC, plainS_alike hw ok]
        exact a.snoc _
end My
namespace My
open PySem L2 SX XT XS XE XD XL
def cl (x : Str) : List Nat := x.cps.toList
theorem cl_len (a : Str) : (cl a).length = a.length := Array.length_toList
theorem esc_all : ∀ l : List Nat, (l.flatMap XQ.escC).length ≤ 2 * l.length := by
  intro l
  induction l with
  | nil => exact Nat.le_refl _
  | cons a r ih =>
    rw [List.flatMap_cons, List.length_append, List.length_cons]
    have : (XQ.escC a).length ≤ 2 := by
      unfold XQ.escC
      split
      · exact Nat.le_refl _
      · split
        · exact Nat.le_refl _
        · split
          · exact Nat.le_refl _
          · exact Nat.le_succ _
    omega
theorem int_text_pos (i : Int) : 1 ≤ (Str.ofString (toString i)).length := by
  rw [PySem.ofString_length]
  cases i with
  | ofNat n =>
    show 1 ≤ (Nat.repr n).length
    have : (Nat.repr n).toList = Nat.toDigits 10 n := by simp [Nat.repr]
    have h := Nat.length_toDigits_pos (b := 10) (n := n)
    rw [← String.length_toList, this]
    exact h
  | negSucc n =>
    show 1 ≤ ("-" ++ Nat.repr (n + 1)).length
    rw [String.length_append]
    have : ("-" : String).length = 1 := by decide +kernel
    omega
theorem nameOf_len {S : St} (hw : WfS S) {n : Nat} {o : Dv} {ns : List (Str × Dv)} (h : S.things[n]? = some (.inst o ns)) : (nameOf S o).length ≤ 1000 := by
  obtain ⟨k, nm, par, ms, rfl, hk⟩ := hw.2 n _ h
  have hnm : nm.length ≤ 1000 := hw.2 k _ hk
  unfold nameOf
  simp only [hk]
  exact hnm
theorem pls {S : St} (hw : WfS S) (m : Nat) : PlS S m := by
  intro d ok
  unfold okPl
  cases d with
  | non => show 1 ≤ (("null" : Str)).length ∧ (("null" : Str)).length ≤ 2002; decide +kernel
  | bl b =>
    cases b
    · show 1 ≤ (("false" : Str)).length ∧ (("false" : Str)).length ≤ 2002; decide +kernel
    · show 1 ≤ (("true" : Str)).length ∧ (("true" : Str)).length ≤ 2002; decide +kernel
  | int i =>
    have h1 := PyProof.Rows.int_text_len_1921 (i := i) ok
    have h2 := int_text_pos i
    exact ⟨h2, by show (Str.ofString (toString i)).length ≤ 2002; omega⟩
  | str x =>
    show 1 ≤ (XQ.qText (headS m x)).length ∧ (XQ.qText (headS m x)).length ≤ 2002
    have e : (XQ.qText (headS m x)).length = (cl (XQ.qText (headS m x))).length := (cl_len _).symm
    rw [show cl (XQ.qText (headS m x)) = _ from XQ.qText_list _] at e
    have h := esc_all (headS m x).cps.toList
    have h2 : (headS m x).cps.toList.length = (headS m x).length := Array.length_toList
    have h3 := headS_len m x
    have : x.length ≤ 1000 := ok
    rw [List.length_cons, List.length_append, List.length_singleton] at e
    omega
  | bi x => show 1 ≤ (("<function>" : Str)).length ∧ (("<function>" : Str)).length ≤ 2002; decide +kernel
  | obj n =>
    have l1 : (("<" : Str)).length = 1 := by decide +kernel
    have l2 : ((">" : Str)).length = 1 := by decide +kernel
    have l3 : (("<class " : Str)).length = 7 := by decide +kernel
    have l4 : 1 ≤ (("<function>" : Str)).length ∧ (("<function>" : Str)).length ≤ 2002 := by decide +kernel
    unfold plainS
    cases h : S.things[n]? with
    | none => simp only [h]; exact l4
    | some t =>
      cases t with
      | inst o ns =>
        simp only [h]
        have h1 := nameOf_len hw h
        have h2 := headS_len m (nameOf S o)
        rw [Str.length_append, Str.length_append, l1, l2]
        omega
      | kin nm par ms =>
        simp only [h]
        have h1 : nm.length ≤ 1000 := hw.2 n _ h
        have h2 := headS_len m nm
        rw [Str.length_append, Str.length_append, l3, l2]
        omega
      | _ => simp only [h]; exact l4
end My
namespace My
open PySem L2
section
variable {X : Cx} {d : Addr} {es : Array DictEntry} {n : Nat}
/-- d.get(key), d a written dict -/
theorem mt_kget (D : KDict X.K X.w d es n) : MtR X "dict.get" (fun x xs H Q => ∃ (z : Str) (r : Option Value), x = .ref d ∧ xs = [.str z] ∧ PySem.W.nsIn X.K d z = some r ∧ ((r = none ∧ Q .non H) ∨ ∃ u v, r = some u ∧ RelV v u ∧ Q v H)) := by
  intro pins s σ H x xs v us Q I rx rs h
  obtain ⟨z, r, rfl, rfl, e, q⟩ := h
  cases rx
  obtain ⟨u, rfl, t, rfl⟩ := rs.one
  have M := PySem.W.mapOf_K (prog := X.prog) (w := X.w) I.kIn D.at_ D.lit
  refine call_meetsIn PySem.F.slot_dict_get M.typeIs PySem.F.entry_dict_get (PySem.F.args_dict_get_2 _ _) (PySem.meets_dict_get _ d (PySem.strKind_is X.prog X.w z t) D.low) ⟨_, M, ?_⟩
  rw [PySem.W.find_K D.at_ e]
  rcases q with ⟨rfl, q⟩ | ⟨u, v, rfl, r, q⟩
  · exact ⟨.non, H, I.tok _, rfl, q⟩
  · exact ⟨v, H, I.tok _, r, q⟩
end
end My
namespace My
open PySem L2
def tKGet (K : PySem.W.Frag) (to : TE) (te : TE) (d : Addr) : TE := fun σ H Q => to σ H fun x H1 => x = .ref d ∧ tCons te tNil σ H1 fun xs H2 => ∃ y, xs = [y] ∧ ∃ (z : Str) (r : Option Value), y = .str z ∧ PySem.W.nsIn K d z = some r ∧ ((r = none ∧ Q .non H2) ∨ ∃ u v, r = some u ∧ RelV v u ∧ Q v H2)
theorem pe_kget {X : Cx} {d : Addr} {es : Array DictEntry} {n : Nat} {o e : Expr} {to te : TE} {apos cpos : Pos} (D : KDict X.K X.w d es n) (ho : PE X o to) (he : PE X e te)
    (hbase : attributeBase o "get" X.env (eval o X.env) = eval o X.env := by rfl)
    (hfew : ((backTo cpos (starEach [e] X.env)).all (fun x => !x.1) && (backToKw cpos (keywordEach [] X.env)).all (fun x => x.1.isSome)
      && decide ([e].length + ([] : List Keyword).length + (if ([] : List Keyword).isEmpty then 0 else 1) < 30)) = true := by rfl)
    (hline : (apos.endLine == cpos.line) = true := by rfl) (hs : starEach [e] X.env = (false, eval e X.env) :: starEach [] X.env := by rfl) (hplain : (backTo cpos (starEach [] X.env)).any (·.1) = false := by rfl) :
    PE X (.Call (.Attribute o "get" apos) [e] [] cpos) (tKGet X.K to te d) := by
  have ha : PA X [e] (tCons te tNil) := pa_cons he pa_nil (hs := hs)
  refine ⟨fun pins s σ H Q I h => ?_⟩
  refine wpAny_Call_method_late hbase hfew hline rfl (thn (ho.run pins s σ H _ I h) fun v s1 ⟨x, H1, I1, r1, hx, q1⟩ => ?_)
  subst hx
  cases r1
  have M := PySem.W.mapOf_K (prog := X.prog) (w := X.w) I1.kIn D.at_ D.lit
  refine ⟨"dict", "dict.get", PySem.F.plainAttrs_dict, PySem.F.slot_dict_get, PySem.F.type_dict_get, M.typeIs, (fun a e => ?_), ?_⟩
  · cases e
    exact ⟨_, I1.kIn _ _ D.at_, rfl⟩
  · have hA := ha.run cpos pins s1 σ H1 _ I1 (show tCons te tNil σ H1 (fun xs H2 => ∃ y, xs = [y] ∧ ∃ (z : Str) (r : Option Value), y = .str z ∧ PySem.W.nsIn X.K d z = some r ∧ ((r = none ∧ Q .non H2) ∨ ∃ u v, r = some u ∧ RelV v u ∧ Q v H2)) from q1)
    rw [hs] at hA ⊢
    refine Calls.callWith_builtin (by show (false || (backTo cpos (starEach [] X.env)).any (·.1)) = false; rw [hplain] <;> rfl) (Calls.evalArgs_plain ?_)
    refine thn hA fun us s2 ⟨vs, H2, I2, r2, y, hy, z, r, hz, e, q2⟩ => ?_
    subst hy hz
    exact mt_kget D pins s2 σ H2 (.ref d) [.str z] (.ref d) us Q I2 rfl r2 ⟨z, r, rfl, rfl, e, q2⟩
end My
namespace My
open PySem L2 SX XT XS XE XD XL XZ
open C8 (pss_cut tCut cutS_slice pe_gc)
theorem emp_app (x : Str) : Str.empty ++ x = x := by
  cases x with
  | mk a =>
    show Str.mk (#[] ++ a) = Str.mk a
    rw [Array.empty_append]
theorem lt5 {x : Str} (h : x.length ≤ 100000) : x.length ≤ sizeLine := Nat.le_trans h (by decide)
theorem nd {p : Prop} [Decidable p] (h : ¬ decide p = true) : ¬ p := fun z => h (decide_eq_true z)
theorem Same.rf {H : Hp} : Same H H := fun _ _ e => e
theorem Err.mono {E E' : XK} {C : Addr} {H : Hp} {k m : Str} (he : ∀ c d H', E c d H' → E' c d H') (h : Err E C H k m) : Err E' C H k m := fun d hd => he _ _ _ (h d hd)
section
variable {P : Program} {w : World} {K : PySem.W.Frag} {mg : Str → Option Value} {base : Heap} {A : Ads}
def spCSX (A : Ads) : Sp := fun vs H Q E => ∃ i : Int, vs = [.int i] ∧ (i ≤ 1000 → Q .non H) ∧ (1000 < i → Err E A.ScriptError H "SizeError" "too large")
theorem ok_check_sizeX (L : Lib P K mg A) : FnOk P w K mg base (L2.CX P w) 3 L.check_size.f L.check_size.fd ["size"] (spCSX A) := by
  refine L.check_size.F.okX sc_check_size (fun vs H Q E h => ?_) (fun cdv A' outer s H vs Q E hr h => ?_)
  · obtain ⟨i, rfl, _⟩ := h
    rfl
  · obtain ⟨i, rfl, q1, q2⟩ := h
    refine ⟨_, (pss_one (ps_if (pt_cmpR op_gt (pv 0) (pe_glob (v := .int 1000) (by rfl) L.v_MOST_HELD.choose_spec ⟨_, rfl⟩) (nomark _))
        (pss_one (ps_raise2 rfl L.x_ScriptError.T (L.x_ScriptError.F _ _) (hr.mono (by omega)) (takes_of rfl rfl rfl rfl) L.x_ScriptError.b (by rfl) L.x_ScriptError.g (pa_cons pe_str (pa_cons pe_str pa_nil))))
        pss_nil)), ?_⟩
    refine ⟨_, rfl, _, _, rfl, rfl, _, rfl, ite_or (fun e => ?_) fun e => ?_⟩
    · exact made2 (by decide +kernel) (by decide +kernel) (q2 (of_decide_eq_true e))
    · exact q1 (by have := of_decide_eq_false e; omega)
/-- a new list, or too large -/
def NewOr (P : Program) (w : World) (A : Ads) (a : Sa) (S : St) (H : Hp) (ds : List Dv) (Q : VK) (E : XK) : Prop :=
  (ds.length ≤ 1000 → New P w A a S H (.parts ds) Q) ∧ (1000 < ds.length → ∀ H', Same H H' → Err E A.ScriptError H' "SizeError" "too large")
theorem New.same {a : Sa} {S : St} {H H' : Hp} {d : Th} {Q : VK} (s : Same H H') (n : New P w A a S H d Q) : New P w A a S H' d Q := fun H2 r a' ev sm hr => n H2 r a' ((Ev.same s).trans ev) sm hr
theorem NewOr.same {a : Sa} {S : St} {H H' : Hp} {ds : List Dv} {Q : VK} {E : XK} (s : Same H H') (n : NewOr P w A a S H ds Q E) : NewOr P w A a S H' ds Q E := ⟨fun h => (n.1 h).same s, fun h H2 s2 => n.2 h H2 (s.trans s2)⟩
/-! ### places -/
/-! ### arguments -/
def arM (n m : Nat) : Str := ("expected " : Str) ++ (toString ((n : Nat) : Int) : String) ++ (" arguments, got " : Str) ++ (toString ((m : Nat) : Int) : String)
theorem arM_len : ∀ n, n < 12 → ∀ m, m < 12 → (arM n m).length ≤ 100000 ∧ (("expected " : Str) ++ ((toString ((n : Nat) : Int) : String) : Str)).length ≤ 100000 ∧ (("expected " : Str) ++ ((toString ((n : Nat) : Int) : String) : Str) ++ (" arguments, got " : Str)).length ≤ 100000 := by decide +kernel
theorem log_small : ∀ n, n < 12 → ((n : Nat) : Int).natAbs.log2 < 1920 := by decide +kernel
def spCCX (K : PySem.W.Frag) (A : Ads) : Sp := fun vs H Q E => ∃ l xs n, vs = [.ref l, .int ((n : Nat) : Int)] ∧ SqL K H l xs ∧ xs.length ≤ 10 ∧ n ≤ 10 ∧ (xs.length = n → Q .non H) ∧ (xs.length ≠ n → Err E A.ScriptError H "ArityError" (arM n xs.length))
theorem ok_check_countX (L : Lib P K mg A) : FnOk P w K mg base (L2.CX P w) 3 L.check_count.f L.check_count.fd ["values", "wanted"] (spCCX K A) := by
  refine L.check_count.F.okX sc_check_count (fun vs H Q E h => ?_) (fun cdv A' outer s H vs Q E hr h => ?_)
  · obtain ⟨l, xs, n, rfl, _⟩ := h
    rfl
  · obtain ⟨l, xs, n, rfl, hl, hz, hn, q1, q2⟩ := h
    refine ⟨_, (pss_one (ps_if (pt_cmpR op_ne (pe_callB call_len_seq (by rfl) L.z_len PySem.boot_len (pa_cons (pv 0) pa_nil)) (pv 1) (nomark _))
        (pss_one (ps_raise2 rfl L.x_ScriptError.T (L.x_ScriptError.F _ _) (hr.mono (by omega)) (takes_of rfl rfl rfl rfl) L.x_ScriptError.b (by rfl) L.x_ScriptError.g (pa_cons pe_str (pa_cons (pe_joined (.cons pe_str (.cons (pe_fmt (pv 1)) (.cons pe_str (.cons (pe_fmt (pe_callB call_len_seq (by rfl) L.z_len PySem.boot_len (pa_cons (pv 0) pa_nil))) .nil))))) pa_nil))))
        pss_nil)), ?_⟩
    refine ⟨_, rfl, l, xs, rfl, .inl hl, _, rfl, rfl, _, rfl, ?_⟩
    by_cases e : xs.length = n
    · subst e
      exact ite2 (fun h => by simp at h) fun _ => q1 rfl
    · refine ite2 (fun _ => ?_) fun h => by simp at h; omega
      obtain ⟨b1, b2, b3⟩ := arM_len n (by omega) xs.length (by omega)
      refine ⟨_, rfl, lt5 (by decide +kernel), _, rfl, .inr ⟨_, rfl, log_small n (by omega), _, rfl, ?_, _, rfl, ?_, ?_⟩⟩
      · rw [emp_app]; exact lt5 b2
      · rw [emp_app]; exact lt5 b3
      refine ⟨_, rfl, l, xs, rfl, .inl hl, .inr ⟨_, rfl, log_small _ (by omega), _, rfl, ?_, ?_⟩⟩
      · rw [emp_app]; exact lt5 b1
      · rw [emp_app]
        exact made2 (by decide +kernel) b1 (q2 e)
def fits (S : St) (d : Dv) (k : Str) : Bool := decide (k = "any") || decide (k = kindD S d)
def kinds3 : List Str := ["any", "integer", "list", "text"]
theorem kinds3_key : ∀ k ∈ kinds3, decide (V.str k = V.str "key") = false ∧ decide (V.str k = V.str "any") = decide (k = "any") := by decide +kernel
def spCKX (P : Program) (w : World) (A : Ads) : Sp := fun vs H Q E => ∃ (a : Sa) (S : St) (v : V) (d : Dv) (k : Str), vs = [.ref a.s, v, .str k] ∧ SM P w A H a S ∧ Has A H v d ∧ okV S d ∧ k ∈ kinds3 ∧ (fits S d k = true → Q .non H) ∧ (fits S d k = false → Err E A.ScriptError H "KindError" "wrong argument")
theorem ok_check_kind (L : Lib P K mg A) : FnOk P w K mg base (L2.CX P w) 3 L.check_kind.f L.check_kind.fd ["store", "value", "kind"] (spCKX P w A) := by
  have G_kind_of : FnOk P w K mg base CX0 2 L.kind_of.f L.kind_of.fd ["store", "value"] (spKO P w A) := ok_kind_of L
  have G_is_key : FnOk P w K mg base CX0 1 L.is_key.f L.is_key.fd ["value"] (spIK A) := ok_is_key L
  refine L.check_kind.F.okX sc_check_kind (fun vs H Q E h => ?_) (fun cdv A' outer s H vs Q E hr h => ?_)
  · obtain ⟨a, S, v, d, k, rfl, _⟩ := h
    rfl
  · obtain ⟨a, S, v, d, k, rfl, hS, hv, ho, hk, q1, q2⟩ := h
    obtain ⟨k1, k2⟩ := kinds3_key k hk
    refine ⟨_, (pss_cons (ps_if (PW.pt (pw_or (pt_cmpR op_eq (pv 2) pe_str (nomark _)) (pw_or1 (pt_cmpR op_eq (pv 2) (pe_call G_kind_of (hr.mono (by omega)) (by rfl) L.kind_of.g L.kind_of.F.kp L.kind_of.b .nil pass0 (pa_cons (pv 0) (pa_cons (pv 1) pa_nil))) (nomark _)))))
        (pss_one ps_retN)
        pss_nil)
      (pss_cons (ps_if (PW.pt (pw_and (pt_cmpR op_eq (pv 2) pe_str (nomark _)) (pw_and1 (pt_val (pe_call G_is_key (hr.mono (by omega)) (by rfl) L.is_key.g L.is_key.F.kp L.is_key.b .nil pass0 (pa_cons (pv 1) pa_nil))))))
        (pss_one ps_retN)
        pss_nil)
      (pss_one (ps_raise2 rfl L.x_ScriptError.T (L.x_ScriptError.F _ _) (hr.mono (by omega)) (takes_of rfl rfl rfl rfl) L.x_ScriptError.b (by rfl) L.x_ScriptError.g (pa_cons pe_str (pa_cons pe_str pa_nil)))))), ?_⟩
    refine ⟨_, rfl, rfl, _, rfl, ite_or (fun h => iteT (q1 ?_)) fun h => ?_⟩
    · rw [k2] at h
      unfold fits
      rw [h, Bool.true_or]
    rw [k2] at h
    refine ⟨_, rfl, _, rfl, _, rfl, a, S, v, d, rfl, hS, hv, ho, rfl, _, rfl, ?_⟩
    refine ite_or (fun e => q1 ?_) fun e => ?_
    · unfold fits
      rw [h, Bool.false_or]
      have := of_decide_eq_true e
      injection this with this
      exact decide_eq_true this
    refine ⟨_, rfl, rfl, _, rfl, ?_⟩
    rw [k1]
    refine iteF (iteF ?_)
    refine made2 (by decide +kernel) (by decide +kernel) (q2 ?_)
    unfold fits
    rw [h, Bool.false_or]
    have := of_decide_eq_false e
    exact decide_eq_false fun z => this (by rw [z])
/-- all arguments fit -/
def fitsA (S : St) : List Dv → List Str → Bool
  | d :: ds, k :: ks => fits S d k && fitsA S ds ks
  | _, _ => true
theorem fitsA_take {S : St} : ∀ {ds : List Dv} {ks : List Str} {i : Nat} {d : Dv} {k : Str}, fitsA S (ds.take i) (ks.take i) = true → ds[i]? = some d → ks[i]? = some k → fits S d k = false → fitsA S ds ks = false
  | d :: ds, k :: ks, 0, _, _, _, e1, e2, h => by
    simp at e1 e2
    subst e1 e2
    simp [fitsA, h]
  | d :: ds, k :: ks, i + 1, _, _, g, e1, e2, h => by
    simp at e1 e2
    simp only [List.take_succ_cons, fitsA, Bool.and_eq_true] at g
    have := fitsA_take g.2 e1 e2 h
    simp [fitsA, this]
  | [], _, _, _, _, _, e1, _, _ => by simp at e1
  | _ :: _, [], _, _, _, _, _, e2, _ => by simp at e2
theorem fitsA_snoc {S : St} : ∀ {ds : List Dv} {ks : List Str} {i : Nat} {d : Dv} {k : Str}, fitsA S (ds.take i) (ks.take i) = true → ds[i]? = some d → ks[i]? = some k → fits S d k = true → fitsA S (ds.take (i + 1)) (ks.take (i + 1)) = true
  | d :: ds, k :: ks, 0, _, _, _, e1, e2, h => by
    simp at e1 e2
    subst e1 e2
    simp [fitsA, h]
  | d :: ds, k :: ks, i + 1, _, _, g, e1, e2, h => by
    simp at e1 e2
    simp only [List.take_succ_cons, fitsA, Bool.and_eq_true] at g ⊢
    exact ⟨g.1, fitsA_snoc g.2 e1 e2 h⟩
  | [], _, _, _, _, _, e1, _, _ => by simp at e1
  | _ :: _, [], _, _, _, _, _, e2, _ => by simp at e2
theorem Hs.atv {A : Ads} {H : Hp} : ∀ {vs : List V} {ds : List Dv} {i : Nat} {v : V}, Hs A H vs ds → vs[i]? = some v → ∃ d, ds[i]? = some d ∧ Has A H v d
  | _ :: _, _ :: _, 0, _, h, e => by
    simp at e
    exact ⟨_, rfl, e ▸ h.1⟩
  | _ :: _, _ :: _, i + 1, _, h, e => by
    simp at e
    obtain ⟨v, e1, e2⟩ := Hs.atv h.2 e
    exact ⟨v, by simpa using e1, e2⟩
  | [], _ :: _, _, _, h, _ => h.elim
  | _ :: _, [], _, _, h, _ => h.elim
  | [], [], _, _, _, e => by simp at e
def spCAX (P : Program) (w : World) (K : PySem.W.Frag) (A : Ads) : Sp := fun vs H Q E => ∃ (a : Sa) (S : St) (l t : Addr) (us : List V) (ds : List Dv) (ks : List Str), vs = [.ref a.s, .ref l, .ref t] ∧ SM P w A H a S ∧ SqL K H l us ∧ Hs A H us ds ∧ (∀ d ∈ ds, okV S d) ∧ ds.length ≤ 10 ∧
  (∀ H, SqT K H t (ks.map V.str)) ∧ (∀ k ∈ ks, k ∈ kinds3) ∧ ks.length ≤ 10 ∧ (ds.length ≠ ks.length → Err E A.ScriptError H "ArityError" (arM ks.length ds.length)) ∧
  (ds.length = ks.length → ∀ H', Same H H' → (fitsA S ds ks = true → Q .non H') ∧ (fitsA S ds ks = false → Err E A.ScriptError H' "KindError" "wrong argument"))
theorem ok_check_arguments (L : Lib P K mg A) : FnOk P w K mg base (L2.CX P w) 4 L.check_arguments.f L.check_arguments.fd ["store", "values", "kinds"] (spCAX P w K A) := by
  have G_check_countX : FnOk P w K mg base (L2.CX P w) 3 L.check_count.f L.check_count.fd ["values", "wanted"] (spCCX K A) := ok_check_countX L
  have G_check_kind : FnOk P w K mg base (L2.CX P w) 3 L.check_kind.f L.check_kind.fd ["store", "value", "kind"] (spCKX P w A) := ok_check_kind L
  refine L.check_arguments.F.okX sc_check_arguments (fun vs H Q E h => ?_) (fun cdv A' outer s H vs Q E hr h => ?_)
  · obtain ⟨a, S, l, t, us, ds, ks, rfl, _⟩ := h
    rfl
  · obtain ⟨a, S, l, t, us, ds, ks, rfl, hS, hl, hd, ho, hz, ht, hk, hkz, q1, q2⟩ := h
    have hul := hd.len
    refine ⟨_, (pss_cons (ps_expr (pe_callS G_check_countX (hr.mono (by omega)) (by rfl) L.check_count.g L.check_count.F.kp L.check_count.b (fun σ => passAt (takes_of rfl rfl rfl rfl) σ) (pa_cons (pv 1) (pa_cons (pe_callB call_len_seq (by rfl) L.z_len PySem.boot_len (pa_cons (pv 2) pa_nil)) pa_nil))))
      (pss_one (ps_for (passes_of rfl) rfl (pi_zipM (by rfl) L.z_zip (pa_cons (pv 1) (pa_cons (pv 2) pa_nil))) (pg_tup (by rfl) (pgs_cons (pg_name (i := 3) sc_check_arguments.nd rfl (.inl rfl)) (pgs_cons (pg_name (i := 4) sc_check_arguments.nd rfl (.inl rfl)) pgs_nil)))
        (pss_one (ps_expr (pe_callS G_check_kind (hr.mono (by omega)) (by rfl) L.check_kind.g L.check_kind.F.kp L.check_kind.b (fun σ => passAt (takes_of rfl rfl rfl rfl) σ) (pa_cons (pv 0) (pa_cons (pv 3) (pa_cons (pv 4) pa_nil))))))))), ?_⟩
    refine ⟨_, rfl, _, rfl, t, _, rfl, .inr (ht H), l, us, ks.length, by rw [List.length_map], hl, by omega, hkz, fun len => ?_, fun ne => by rw [hul]; exact q1 (by omega)⟩
    have q := q2 (by omega)
    refine ⟨_, rfl, _, rfl, l, t, us, _, rfl, hl, ht H, for_zipM (show us.length = (ks.map V.str).length by rw [List.length_map]; exact len) (fun i σ H' => ∃ y3 y4 : Option V, σ = [some (.ref a.s), some (.ref l), some (.ref t), y3, y4] ∧ Same H H' ∧ fitsA S (ds.take i) (ks.take i) = true) ⟨none, none, rfl, Same.rf, by simp [fitsA]⟩ (fun i σ H' h => ?_) ?_ ?_⟩
    · obtain ⟨_, _, _, s1, _⟩ := h
      exact ⟨s1.seq hl, ht H'⟩
    · rintro i x y T σ H1 hx hy ⟨y3, y4, rfl, s1, ff⟩ hT
      rw [List.getElem?_map] at hy
      cases hki : ks[i]? with
      | none => rw [hki] at hy; cases hy
      | some k =>
        rw [hki] at hy
        cases hy
        obtain ⟨d, hdi, hxd⟩ := hd.atv hx
        have s2 : Same H (upd H1 T (.tup [x, .str k])) := s1.trans (same_upd hT)
        refine ⟨T, [x, .str k], rfl, .inl (.inl upd_same), rfl, ?_⟩
        refine ⟨_, _, rfl, _, _, rfl, rfl, ?_⟩
        refine ⟨_, rfl, _, rfl, _, rfl, a, S, x, d, k, rfl, hS.same s2, hxd.sv (Same.sv s2), ho _ (List.mem_of_getElem? hdi), hk _ (List.mem_of_getElem? hki), fun f => ⟨_, _, rfl, s2, fitsA_snoc ff hdi hki f⟩, fun f => (q _ s2).2 (fitsA_take ff hdi hki f)⟩
    · rintro σ H1 ⟨y3, y4, rfl, s1, ff⟩
      refine (q H1 s1).1 ?_
      rw [hul] at ff
      rw [List.take_length, show ds.length = ks.length by omega, List.take_length] at ff
      exact ff
def spRF (P : Program) (w : World) (A : Ads) : Sp := fun vs H Q E => ∃ (a : Sa) (S : St) (v : V) (d : Dv) (n : Str), vs = [.ref a.s, v, .str n] ∧ SM P w A H a S ∧ Has A H v d ∧ okV S d ∧ n.length ≤ 1000 ∧ Err E A.ScriptError H "FieldError" (kindD S d ++ (" has no field " : Str) ++ n)
theorem ok_refuse_field (L : Lib P K mg A) : FnOk P w K mg base (L2.CX P w) 3 L.refuse_field.f L.refuse_field.fd ["store", "x", "name"] (spRF P w A) := by
  have G_kind_of : FnOk P w K mg base CX0 2 L.kind_of.f L.kind_of.fd ["store", "value"] (spKO P w A) := ok_kind_of L
  refine L.refuse_field.F.okX sc_refuse_field (fun vs H Q E h => ?_) (fun cdv A' outer s H vs Q E hr h => ?_)
  · obtain ⟨a, S, v, d, n, rfl, _⟩ := h
    rfl
  · obtain ⟨a, S, v, d, n, rfl, hS, hv, ho, hn, q⟩ := h
    obtain ⟨e1, e2⟩ := kind_kn S d
    have kl : ∀ n, n < 9 → (kn n).length ≤ 100 := by decide +kernel
    have kl := kl _ e2
    rw [← e1] at kl
    have hl : ((" has no field " : Str)).length = 14 := by decide +kernel
    refine ⟨_, (pss_one (ps_raise2 rfl L.x_ScriptError.T (L.x_ScriptError.F _ _) (hr.mono (by omega)) (takes_of rfl rfl rfl rfl) L.x_ScriptError.b (by rfl) L.x_ScriptError.g (pa_cons pe_str (pa_cons (pe_joined (.cons (pe_fmt (pe_call G_kind_of (hr.mono (by omega)) (by rfl) L.kind_of.g L.kind_of.F.kp L.kind_of.b .nil pass0 (pa_cons (pv 0) (pa_cons (pv 1) pa_nil)))) (.cons pe_str (.cons (pe_fmt (pv 2)) .nil)))) pa_nil)))), ?_⟩
    refine ⟨_, rfl, _, rfl, a, S, v, d, rfl, hS, hv, ho, .inl ⟨kindD S d, rfl, lt5 (by omega), kindD S d, rfl, ?_, (" has no field " : Str), rfl, ?_, ?_⟩⟩
    · rw [emp_app]; exact lt5 (by omega)
    · rw [emp_app, Str.length_append]; exact Nat.le_trans (m := 100000) (by omega) (by decide)
    refine ⟨_, rfl, .inl ⟨n, rfl, lt5 (by omega), n, rfl, ?_, ?_⟩⟩
    · rw [emp_app, Str.length_append, Str.length_append]; exact Nat.le_trans (m := 100000) (by omega) (by decide)
    · rw [emp_app]
      exact made2 (by decide +kernel) (by rw [Str.length_append, Str.length_append]; omega) q
end
end My
namespace My
open PySem L2 SX XT XS XE XD XL XZ
open C8 (pss_cut tCut cutS_slice pe_gc)
theorem nodup_set {α : Type} : ∀ {l : List α} {n : Nat} {q : α}, l.Nodup → q ∉ l → (l.set n q).Nodup
  | [], _, _, h, _ => h
  | a :: l, 0, q, h, n => List.nodup_cons.mpr ⟨fun z => n (List.mem_cons_of_mem _ z), (List.nodup_cons.mp h).2⟩
  | a :: l, k + 1, q, h, n => List.nodup_cons.mpr ⟨fun z => by
      rcases List.mem_or_eq_of_mem_set z with z | z
      · exact (List.nodup_cons.mp h).1 z
      · exact n (z ▸ List.mem_cons_self ..), nodup_set (List.nodup_cons.mp h).2 fun z => n (List.mem_cons_of_mem _ z)⟩
theorem Hs.set {A : Ads} {H : Hp} : ∀ {vs : List V} {ds : List Dv} {v : V} {d : Dv} (i : Nat), Hs A H vs ds → Has A H v d → Hs A H (vs.set i v) (ds.set i d)
  | _ :: _, _ :: _, _, _, 0, h, g => ⟨g, h.2⟩
  | _ :: _, _ :: _, _, _, i + 1, h, g => ⟨h.1, Hs.set i h.2 g⟩
  | [], [], _, _, _, _, _ => trivial
  | [], _ :: _, _, _, _, h, _ => h.elim
  | _ :: _, [], _, _, _, h, _ => h.elim
theorem Hs.init {A : Ads} {H : Hp} : ∀ {vs : List V} {ds : List Dv}, Hs A H vs ds → Hs A H vs.dropLast ds.dropLast
  | [], [], _ => trivial
  | [_], [_], _ => trivial
  | _ :: v :: vs, _ :: d :: ds, h => ⟨h.1, Hs.init (vs := v :: vs) (ds := d :: ds) h.2⟩
  | [_], _ :: _ :: _, h => h.2.elim
  | _ :: _ :: _, [_], h => h.2.elim
  | [], _ :: _, h => h.elim
  | _ :: _, [], h => h.elim
section
variable {P : Program} {w : World} {K : PySem.W.Frag} {mg : Str → Option Value} {base : Heap} {A : Ads}
/-- the thing n of the store is a list ds, at x with its part m -/
structure Pt (P : Program) (w : World) (A : Ads) (H : Hp) (a : Sa) (S : St) (n : Nat) (x m : Addr) (ds : List Dv) : Prop where
  sm : SM P w A H a S
  x_ : a.X[n]? = some x
  m_ : a.M[n]? = some m
  th : S.things[n]? = some (.parts ds)
theorem Pt.same {H H' : Hp} {a : Sa} {S : St} {n : Nat} {x m : Addr} {ds : List Dv} (p : Pt P w A H a S n x m ds) (s : Same H H') : Pt P w A H' a S n x m ds := ⟨p.sm.same s, p.x_, p.m_, p.th⟩
theorem Pt.at_ {H : Hp} {a : Sa} {S : St} {n : Nat} {x m : Addr} {ds : List Dv} (p : Pt P w A H a S n x m ds) : ∃ dx vs, H x = some (.ins A.Parts dx [("held", .ref m)]) ∧ H m = some (.lst vs) ∧ Hs A H vs ds := p.sm.th n x m _ p.x_ p.m_ p.th
/-- the store's thing n is now the list ds -/
def St.put (S : St) (n : Nat) (ds : List Dv) : St := { S with things := S.things.set n (.parts ds) }
/-- the list is written in place -/
theorem Pt.write {H : Hp} {a : Sa} {S : St} {n : Nat} {x m : Addr} {ds es : List Dv} {us : List V} (p : Pt P w A H a S n x m ds) (hu : Hs A H us es) :
    Ev a a H (upd H m (.lst us)) ∧ Pt P w A (upd H m (.lst us)) a (S.put n es) n x m es := by
  obtain ⟨dx, vs, h1, h2, h3⟩ := p.at_
  have om : a.own m := .inr (.inr (.inr (.inr (.inr (List.mem_of_getElem? p.m_)))))
  have sv : Sv H (upd H m (.lst us)) := fun b u e ne => by
    rw [upd_ne fun z => by rw [z, h2] at e; exact ne _ (Option.some.inj e).symm]
    exact e
  have nxm : x ≠ m := fun z => by rw [z, h2] at h1; cases h1
  refine ⟨⟨fun b u e ne => by rw [upd_ne (show b ≠ m from fun z => ne (by rw [z]; exact om))]; exact e, rfl, fun _ z => .inl z⟩, ⟨p.sm.setM p.x_ p.m_ sv.vk ⟨dx, us, by rw [upd_ne nxm]; exact h1, upd_same, hu.imp fun _ _ h => h.sv sv⟩, p.x_, p.m_, ?_⟩⟩
  show (S.things.set n _)[n]? = _
  rw [List.getElem?_set_self (List.getElem?_eq_some_iff.mp p.th).1]
/-- the list is put in another place -/
theorem Pt.turn (L : Lib P K mg A) {H : Hp} {a : Sa} {S : St} {n : Nat} {x m q dx : Addr} {ds es : List Dv} {us : List V} (p : Pt P w A H a S n x m ds) (hx : H x = some (.ins A.Parts dx [("held", .ref m)])) (hu : Hs A H us es) (nq : H q = none) :
    Ev a { a with M := a.M.set n q } H (upd (upd H q (.lst us)) x (.ins A.Parts dx [("held", .ref q)])) ∧ Pt P w A (upd (upd H q (.lst us)) x (.ins A.Parts dx [("held", .ref q)])) { a with M := a.M.set n q } (S.put n es) n x q es := by
  have ox : a.own x := .inr (.inr (.inr (.inr (.inl (List.mem_of_getElem? p.x_)))))
  have nxq : x ≠ q := fun z => by rw [z, nq] at hx; cases hx
  have keep : ∀ b u, H b = some u → b ≠ x → upd (upd H q (.lst us)) x (.ins A.Parts dx [("held", .ref q)]) b = some u := fun b u e ne => by
    rw [upd_ne ne, upd_ne (ne_of_none e nq)]
    exact e
  have fr : Fr a H (upd (upd H q (.lst us)) x (.ins A.Parts dx [("held", .ref q)])) := fun b u e ne => keep b u e fun z => ne (z ▸ ox)
  have vk := fr.vk L p.sm
  have hnm : n < a.M.length := (List.getElem?_eq_some_iff.mp p.m_).1
  have fq : ∀ z, z ∈ a.t :: a.o :: a.l :: a.M → z ≠ q := fun z hz e => by
    subst e
    refine p.sm.fresh L nq ?_
    simp only [List.mem_cons] at hz
    rcases hz with h | h | h | h
    · exact .inr (.inl h)
    · exact .inr (.inr (.inl h))
    · exact .inr (.inr (.inr (.inl h)))
    · exact .inr (.inr (.inr (.inr (.inr h))))
  have other : ∀ b, (∃ C dx fs, H b = some (.ins C dx fs)) → b ≠ x → upd (upd H q (.lst us)) x (.ins A.Parts dx [("held", .ref q)]) b = H b := fun b ⟨C, d, fs, e⟩ ne => by rw [keep b _ e ne, e]
  obtain ⟨ds0, hs0⟩ := p.sm.s_
  have nsx : a.s ≠ x := fun z => by rw [z, hx] at hs0; injection hs0 with q1; injection q1 with q1; exact ne_cls L.k_Store_Parts q1.symm
  have lx : ∀ b (xs : List V), H b = some (.lst xs) → b ≠ x := fun b xs e z => by rw [z, hx] at e; cases e
  refine ⟨⟨fr, rfl, fun b z => ?_⟩, ⟨⟨⟨ds0, keep _ _ hs0 nsx⟩, keep _ _ p.sm.t_ (lx _ _ p.sm.t_), keep _ _ p.sm.o_ (lx _ _ p.sm.o_), keep _ _ p.sm.l_ (lx _ _ p.sm.l_), ?_, ?_, ?_, ?_, p.sm.nx⟩, p.x_, ?_, ?_⟩⟩
  · rcases z with z | z | z | z | z | z
    · exact .inl (.inl z)
    · exact .inl (.inr (.inl z))
    · exact .inl (.inr (.inr (.inl z)))
    · exact .inl (.inr (.inr (.inr (.inl z))))
    · exact .inl (.inr (.inr (.inr (.inr (.inl z)))))
    · rcases List.mem_or_eq_of_mem_set z with z | z
      · exact .inl (.inr (.inr (.inr (.inr (.inr z)))))
      · exact .inr (z ▸ nq)
  · show a.X.length = (S.things.set n _).length
    rw [List.length_set]; exact p.sm.lx
  · show (a.M.set n q).length = (S.things.set n _).length
    rw [List.length_set, List.length_set]; exact p.sm.lm
  · intro i x' m' d' e1 e2 e3
    have e2 : (a.M.set n q)[i]? = some m' := e2
    have e3 : (S.things.set n (.parts es))[i]? = some d' := e3
    by_cases hi : n = i
    · subst hi
      have e1 : a.X[n]? = some x' := e1
      rw [p.x_] at e1
      cases e1
      rw [List.getElem?_set_self hnm] at e2
      rw [List.getElem?_set_self (List.getElem?_eq_some_iff.mp p.th).1] at e3
      cases e2
      cases e3
      exact ⟨dx, us, upd_same, by rw [upd_ne nxq.symm]; exact upd_same, hu.imp vk.v⟩
    · rw [List.getElem?_set_ne hi] at e2 e3
      have t := p.sm.th i x' m' d' e1 e2 e3
      have nx : x' ≠ x := fun z => by
        subst z
        exact hi (nodup_get p.sm.nx p.x_ e1)
      refine t.imp vk (fun u e => keep _ _ e nx) (fun u e => keep _ _ e fun z => ?_)
      obtain ⟨um, hum, nins, _⟩ := t.m
      rw [z, hx] at hum
      exact nins _ _ _ (Option.some.inj hum).symm
  · have nd := p.sm.nd
    have hm : ∀ z, z ∈ a.M.set n q → z ∈ a.M ∨ z = q := fun z hz => List.mem_or_eq_of_mem_set hz
    simp only [List.nodup_cons, List.mem_cons, not_or] at nd ⊢
    refine ⟨⟨nd.1.1, nd.1.2.1, fun z => ?_⟩, ⟨nd.2.1.1, fun z => ?_⟩, fun z => ?_, ?_⟩
    · rcases hm _ z with h | h
      · exact nd.1.2.2 h
      · exact fq a.t (by simp) h
    · rcases hm _ z with h | h
      · exact nd.2.1.2 h
      · exact fq a.o (by simp) h
    · rcases hm _ z with h | h
      · exact nd.2.2.1 h
      · exact fq a.l (by simp) h
    · refine nodup_set nd.2.2.2 fun z => ?_
      exact fq q (by simp [z]) rfl
  · show (a.M.set n q)[n]? = _
    rw [List.getElem?_set_self hnm]
  · show (S.things.set n _)[n]? = _
    rw [List.getElem?_set_self (List.getElem?_eq_some_iff.mp p.th).1]
end
end My
namespace My
open PySem L2 SX XT XS XE XD XL XZ
def ltD : Dv → Dv → Bool
  | .int i, .int j => decide (i < j)
  | .str x, .str y => decide (x.cps.toList < y.cps.toList)
  | _, _ => false
def isI : Dv → Bool
  | .int _ => true
  | _ => false
def isS : Dv → Bool
  | .str _ => true
  | _ => false
def oneK (ds : List Dv) : Prop := (∀ d ∈ ds, isI d = true) ∨ ∀ d ∈ ds, isS d = true
def sk (x y : Dv) : Prop := (isI x = true ∧ isI y = true) ∨ (isS x = true ∧ isS y = true)
theorem oneK.sk {ds : List Dv} (h : oneK ds) {x y : Dv} (hx : x ∈ ds) (hy : y ∈ ds) : sk x y := h.imp (fun h => ⟨h x hx, h y hy⟩) fun h => ⟨h x hx, h y hy⟩
theorem oneK.mono {ds es : List Dv} (h : oneK ds) (s : ∀ d ∈ es, d ∈ ds) : oneK es := h.imp (fun h d hd => h d (s d hd)) fun h d hd => h d (s d hd)
theorem isI_eq {d : Dv} (h : isI d = true) : ∃ i, d = .int i := by cases d <;> first | exact ⟨_, rfl⟩ | cases h
theorem isS_eq {d : Dv} (h : isS d = true) : ∃ i, d = .str i := by cases d <;> first | exact ⟨_, rfl⟩ | cases h
theorem str_eq {x y : Str} (h : x.cps.toList = y.cps.toList) : x = y := by
  cases x with
  | mk a =>
    cases y with
    | mk b =>
      have : a = b := Array.toList_inj.mp h
      rw [this]
theorem ltD_asymm : ∀ {x y : Dv}, ltD x y = true → ltD y x = false := fun {x y} h => by
  cases x <;> cases y <;> first | rfl | cases h | skip
  · have h : decide _ = true := h
    have := of_decide_eq_true h
    exact decide_eq_false (by omega)
  · have h : decide _ = true := h
    have := of_decide_eq_true h
    exact decide_eq_false (List.lt_asymm this)
theorem ltD_anti {x y : Dv} (k : sk x y) (h1 : ltD y x = false) (h2 : ltD x y = false) : x = y := by
  rcases k with ⟨a, b⟩ | ⟨a, b⟩
  · obtain ⟨i, rfl⟩ := isI_eq a
    obtain ⟨j, rfl⟩ := isI_eq b
    have h1 : decide _ = false := h1
    have h2 : decide _ = false := h2
    have := of_decide_eq_false h1
    have := of_decide_eq_false h2
    rw [show i = j by omega]
  · obtain ⟨i, rfl⟩ := isS_eq a
    obtain ⟨j, rfl⟩ := isS_eq b
    have h1 : decide _ = false := h1
    have h2 : decide _ = false := h2
    rw [str_eq (List.le_antisymm (List.not_lt.mp (of_decide_eq_false h1)) (List.not_lt.mp (of_decide_eq_false h2)))]
theorem ltD_trans {x y z : Dv} (k1 : sk x y) (k2 : sk y z) (h1 : ltD y x = false) (h2 : ltD z y = false) : ltD z x = false := by
  rcases k1 with ⟨a, b⟩ | ⟨a, b⟩
  · obtain ⟨i, rfl⟩ := isI_eq a
    obtain ⟨j, rfl⟩ := isI_eq b
    rcases k2 with ⟨_, c⟩ | ⟨c, _⟩
    · obtain ⟨k, rfl⟩ := isI_eq c
      have h1 : decide _ = false := h1
      have h2 : decide _ = false := h2
      have := of_decide_eq_false h1
      have := of_decide_eq_false h2
      exact decide_eq_false (by omega)
    · cases c
  · obtain ⟨i, rfl⟩ := isS_eq a
    obtain ⟨j, rfl⟩ := isS_eq b
    rcases k2 with ⟨c, _⟩ | ⟨_, c⟩
    · cases c
    · obtain ⟨k, rfl⟩ := isS_eq c
      have h1 : decide _ = false := h1
      have h2 : decide _ = false := h2
      exact decide_eq_false (List.not_lt.mpr (List.le_trans (List.not_lt.mp (of_decide_eq_false h1)) (List.not_lt.mp (of_decide_eq_false h2))))
theorem perm_uniq {α : Type} {r : α → α → Prop} : ∀ {l m : List α}, l.Perm m → l.Pairwise r → m.Pairwise r → (∀ x ∈ l, ∀ y ∈ l, r x y → r y x → x = y) → l = m
  | [], m, h, _, _, _ => (List.Perm.nil_eq h)
  | a :: l, [], h, _, _, _ => by have := h.length_eq; simp at this
  | a :: l, b :: m, h, h1, h2, an => by
    have ab : a = b := by
      have ha : a ∈ b :: m := h.subset (List.mem_cons_self ..)
      have hb : b ∈ a :: l := h.symm.subset (List.mem_cons_self ..)
      rcases List.mem_cons.mp ha with e | e
      · exact e
      · rcases List.mem_cons.mp hb with e2 | e2
        · exact e2.symm
        · exact an a (List.mem_cons_self ..) b hb ((List.pairwise_cons.mp h1).1 b e2) ((List.pairwise_cons.mp h2).1 a e)
    subst ab
    rw [perm_uniq (List.Perm.cons_inv h) (List.pairwise_cons.mp h1).2 (List.pairwise_cons.mp h2).2 fun x hx y hy => an x (List.mem_cons_of_mem _ hx) y (List.mem_cons_of_mem _ hy)]
def Srtd (ds es : List Dv) : Prop := es.Perm ds ∧ es.Pairwise fun x y => ltD y x = false
theorem Srtd.uniq {ds a b : List Dv} (k : oneK ds) (h1 : Srtd ds a) (h2 : Srtd ds b) : a = b :=
  perm_uniq (h1.1.trans h2.1.symm) h1.2 h2.2 fun x hx y hy e1 e2 => ltD_anti (k.sk (h1.1.subset hx) (h1.1.subset hy)) e1 e2
/-- one more, put behind all that are not greater -/
theorem Srtd.ins {ds es : List Dv} {d : Dv} {n : Nat} (k : oneK (ds ++ [d])) (h : Srtd ds es) (g : ∀ y ∈ es.drop n, ltD d y = true) (l : n = 0 ∨ ∃ y, es[n - 1]? = some y ∧ ltD d y = false) : Srtd (ds ++ [d]) (es.take n ++ [d] ++ es.drop n) := by
  have mem : ∀ {x}, x ∈ es → x ∈ ds ++ [d] := fun {x} hx => List.mem_append_left _ (h.1.subset hx)
  have md : d ∈ ds ++ [d] := by simp
  have sp : es = es.take n ++ es.drop n := (List.take_append_drop n es).symm
  have pw := h.2
  rw [sp, List.pairwise_append] at pw
  obtain ⟨p1, p2, p3⟩ := pw
  refine ⟨?_, ?_⟩
  · have e1 : (es.take n ++ [d] ++ es.drop n).Perm (es ++ [d]) := by
      rw [List.append_assoc]
      refine (List.Perm.append_left _ List.perm_append_comm).trans ?_
      rw [← List.append_assoc, List.take_append_drop]
    exact e1.trans (List.Perm.append_right _ h.1)
  · rw [List.append_assoc, List.pairwise_append]
    refine ⟨p1, ?_, ?_⟩
    · show (d :: es.drop n).Pairwise _
      exact List.pairwise_cons.mpr ⟨fun y hy => ltD_asymm (g y hy), p2⟩
    · intro x hx y hy
      rcases List.mem_cons.mp (show y ∈ d :: es.drop n from hy) with e | e
      · subst e
        rcases l with e | ⟨z, hz, lz⟩
        · subst e
          rw [List.take_zero] at hx
          cases hx
        · by_cases hxz : x = z
          · rw [hxz]; exact lz
          · have zin : z ∈ es := List.mem_of_getElem? hz
            have xin : x ∈ es := List.mem_of_mem_take hx
            obtain ⟨i, hi⟩ := List.getElem?_of_mem hx
            have hn : n ≠ 0 := fun e => by subst e; rw [List.take_zero] at hx; cases hx
            have il : i < n := by
              have := (List.getElem?_eq_some_iff.mp hi).1
              rw [List.length_take] at this
              omega
            rw [List.getElem?_take_of_lt il] at hi
            have hlt : i < n - 1 := by
              refine Nat.lt_of_le_of_ne (by omega) fun e => hxz ?_
              rw [e, hz] at hi
              exact (Option.some.inj hi).symm
            have lx := (List.getElem?_eq_some_iff.mp hi).1
            have lz' := (List.getElem?_eq_some_iff.mp hz).1
            have rr := (List.pairwise_iff_getElem.mp h.2) i (n - 1) lx lz' hlt
            rw [(List.getElem?_eq_some_iff.mp hi).2, (List.getElem?_eq_some_iff.mp hz).2] at rr
            exact ltD_trans (k.sk (mem xin) (mem zin)) (k.sk (mem zin) md) rr lz
      · exact p3 x hx y e
end My
namespace My
open PySem L2 SX XT XS XE XD XL XZ
open C8 (pss_cut tCut cutS_slice pe_gc)
/-! ### texts put together -/
def txtD (S : St) (m : Nat) (d : Dv) : Str := match d with | .str x => x | _ => valS S m d
def cat (ps : List Str) : Str := Txt.join "" ps
theorem app_list (x y : Str) : (x ++ y).cps.toList = x.cps.toList ++ y.cps.toList := by
  cases x; cases y
  exact Array.toList_append
theorem cat_list (ps : List Str) : (cat ps).cps.toList = (ps.map (·.cps.toList)).flatten := join_list ps
theorem cat_snoc (ps : List Str) (t : Str) : cat (ps ++ [t]) = cat ps ++ t := by
  apply str_eq
  rw [app_list, cat_list, cat_list, List.map_append, List.flatten_append]
  simp
theorem cat_len (ps : List Str) : (cat ps).length = szP ps := join_len ps
theorem cat_nil : cat [] = "" := by
  apply str_eq
  rw [cat_list]
  decide +kernel
def jstep (S : St) (m : Nat) (z : Str) (ps : List Str) (d : Dv) : List Str := (if ps = [] then ps else ps ++ [z]) ++ [txtD S m d]
def jp (S : St) (m : Nat) (z : Str) : List Dv → List Str → List Str
  | [], ps => ps
  | d :: ds, ps => jp S m z ds (jstep S m z ps d)
theorem jp_snoc {S : St} {m : Nat} {z : Str} {d : Dv} : ∀ {ds : List Dv} {ps : List Str}, jp S m z (ds ++ [d]) ps = jstep S m z (jp S m z ds ps) d
  | [], _ => rfl
  | _ :: ds, _ => jp_snoc (ds := ds)
theorem jstep_mono {S : St} {m : Nat} {z : Str} {ps : List Str} {d : Dv} : szP ps ≤ szP (jstep S m z ps d) := by
  unfold jstep
  rw [szP_snoc]
  split
  · omega
  · rw [szP_snoc]; omega
theorem jp_mono {S : St} {m : Nat} {z : Str} : ∀ {ds : List Dv} {ps : List Str}, szP ps ≤ szP (jp S m z ds ps)
  | [], _ => Nat.le_refl _
  | _ :: ds, _ => Nat.le_trans jstep_mono (jp_mono (ds := ds))
theorem jp_app {S : St} {m : Nat} {z : Str} {es : List Dv} : ∀ {ds : List Dv} {ps : List Str}, jp S m z (ds ++ es) ps = jp S m z es (jp S m z ds ps)
  | [], _ => rfl
  | _ :: ds, _ => jp_app (ds := ds)
theorem jp_take {S : St} {m : Nat} {z : Str} {ds : List Dv} {ps : List Str} (i : Nat) : szP (jp S m z (ds.take i) ps) ≤ szP (jp S m z ds ps) := by
  have : jp S m z ds ps = jp S m z (ds.take i ++ ds.drop i) ps := by rw [List.take_append_drop]
  rw [this, jp_app]
  exact jp_mono
theorem headS_len2 (m : Nat) (x : Str) : (headS m x).length = min (m + 1) x.length := by
  have hl : x.cps.toList.length = x.length := rfl
  unfold headS cutS
  have e1 : HT.sIx x.length 0 none = 0 := rfl
  have e2 : HT.sIx x.length x.length (some ((m + 1 : Nat) : Int)) = min (m + 1) x.length := by
    rw [HT.sIx_nat]
  rw [e1, e2, Nat.sub_zero, List.drop_zero]
  show ((x.cps.toList.take (min (m + 1) x.length)).toArray).size = _
  rw [List.size_toArray, List.length_take, hl]
  omega
def TAl (x y : Str) : Prop := x = y ∨ (1000 < x.length ∧ 1000 < y.length)
theorem txtD_alike {S : St} (hw : WfS S) {d : Dv} (ok : okW S d) : TAl (txtD S 1000 d) (txtD S 2000 d) := by
  have val : TAl (valS S 1000 d) (valS S 2000 d) := by
    unfold valS
    rcases wr_alike hw 11 [] d [] [] ok (.inl rfl) with e | ⟨h1, h2⟩
    · rw [e]
      by_cases h : (Txt.join "" (wr S 2000 11 [] d [])).length ≤ 1001
      · rw [headS_all (m := 1000) h, headS_all (m := 2000) (by omega)]
        exact .inl rfl
      · refine .inr ?_
        rw [headS_len2, headS_len2]
        omega
    · refine .inr ?_
      rw [headS_len2, headS_len2, join_len, join_len]
      omega
  cases d with
  | str x => exact .inl rfl
  | _ => exact val
theorem jp_alike {S : St} (hw : WfS S) {z : Str} : ∀ {ds : List Dv} {ps qs : List Str}, (∀ d ∈ ds, okW S d) → Alike ps qs → (ps = [] ↔ qs = []) → Alike (jp S 1000 z ds ps) (jp S 2000 z ds qs)
  | [], _, _, _, a, _ => a
  | d :: ds, ps, qs, ok, a, e => by
    refine jp_alike hw (ds := ds) (fun x hx => ok x (List.mem_cons_of_mem _ hx)) ?_ ?_
    · have a1 : Alike (if ps = [] then ps else ps ++ [z]) (if qs = [] then qs else qs ++ [z]) := by
        by_cases h : ps = []
        · rw [if_pos h, if_pos (e.mp h)]; exact a
        · rw [if_neg h, if_neg fun q => h (e.mpr q)]; exact a.snoc z
      unfold jstep
      rcases txtD_alike hw (ok d (List.mem_cons_self ..)) with t | ⟨t1, t2⟩
      · rw [t]; exact a1.snoc _
      · refine .inr ?_
        rw [szP_snoc, szP_snoc]
        omega
    · unfold jstep
      simp
theorem jp_eq {S : St} (hw : WfS S) {z : Str} {ds : List Dv} (ok : ∀ d ∈ ds, okW S d) : (szP (jp S 2000 z ds []) ≤ 1000 → jp S 1000 z ds [] = jp S 2000 z ds []) ∧ (1000 < szP (jp S 2000 z ds []) ↔ 1000 < szP (jp S 1000 z ds [])) := by
  rcases jp_alike hw (z := z) ok (.inl rfl : Alike [] []) Iff.rfl with h | ⟨h1, h2⟩
  · rw [h]; exact ⟨fun _ => rfl, Iff.rfl⟩
  · exact ⟨fun h => by omega, fun _ => h1, fun _ => h2⟩
end My
namespace My
open PySem L2 SX XT XS XE XD XL XZ
open C8 (pss_cut tCut cutS_slice pe_gc)
/-! ### integers -/
@[irreducible] def lim : Nat := 10 ^ 300
theorem bits_lim : 2 ^ 996 ≤ lim := by unfold lim; decide +kernel
theorem lim_big : (lim : Int) = big + 1 := by unfold lim; decide +kernel
theorem nat_bits {n : Nat} (h : n.log2 < 996) : n < 2 ^ 996 := by
  by_cases h0 : n = 0
  · rw [h0]; exact Nat.two_pow_pos _
  · exact (Nat.log2_lt h0).mp h
theorem lt_of_bits {i : Int} (h : (Builtin.Int.intBits i : Int) < 997) : i.natAbs < lim := by
  have h' : Builtin.Int.intBits i < 997 := by exact_mod_cast h
  unfold Builtin.Int.intBits at h'
  refine Nat.lt_of_lt_of_le (nat_bits ?_) bits_lim
  split at h' 
  · rename_i h0
    have : i.natAbs = 0 := by simp_all
    rw [this]; decide
  · omega
def CPowX (i j : Int) : Prop := 0 ≤ j ∧ (Builtin.Int.intBits i : Int) * j ≤ 2 ^ 27
theorem op_powX {X : Cx} : OpR X (binaryOp .Pow) (rI CPowX fun i j => .int (i ^ j.toNat)) := opI fun _ _ _ _ _ _ _ hc q => PyProof.Rows.pow_int hc.1 hc.2 q
section
variable {P : Program} {w : World} {K : PySem.W.Frag} {mg : Str → Option Value} {base : Heap} {A : Ads}
def spIsBounded : Sp := fun vs H Q _ => ∃ i : Int, vs = [.int i] ∧ Q (.bl (decide (i.natAbs < lim))) H
theorem ok_is_bounded (L : Lib P K mg A) : FnOk P w K mg base CX0 1 L.is_bounded.f L.is_bounded.fd ["number"] spIsBounded := by
  refine L.is_bounded.F.ok sc_is_bounded (fun vs H Q E h => ?_) (fun cdv A' outer s H vs Q E hr h => ?_)
  · obtain ⟨i, rfl, _⟩ := h
    rfl
  · obtain ⟨i, rfl, q⟩ := h
    refine ⟨_, (pss_one (ps_ret (pe_or (pe_cmpR op_lt (pe_bits (pv 0)) (pe_glob (v := .int 997) (by rfl) L.v_DOUBTFUL_BITS.choose_spec ⟨_, rfl⟩) (nomark _)) (pe_one (pe_cmpR op_lt (pe_callB call_abs (by rfl) L.z_abs (by decide +kernel) (pa_cons (pv 0) pa_nil)) (pe_op op_powX (pe_op op_pow pe_int pe_int) pe_int) (nomark _)))))), ?_⟩
    refine ⟨_, rfl, _, rfl, _, _, rfl, rfl, _, rfl, ite2 (fun h => ?_) fun _ => ?_⟩
    · rw [show decide (i.natAbs < lim) = true from decide_eq_true (lt_of_bits (of_decide_eq_true h))] at q
      exact q
    · refine ⟨_, rfl, _, rfl, _, _, rfl, rfl, ⟨by decide, by decide, by decide⟩, _, _, rfl, rfl, ⟨by decide, by decide +kernel⟩, _, _, rfl, rfl, ?_⟩
      have e : decide ((if i < 0 then -i else i) < ((10 : Int) ^ (60 : Int).toNat) ^ (5 : Int).toNat) = decide (i.natAbs < lim) := by
        have e1 : ((10 : Int) ^ (60 : Int).toNat) ^ (5 : Int).toNat = (lim : Int) := by
          unfold lim
          decide +kernel
        rw [e1, decide_eq_decide]
        split <;> omega
      show Q (.bl (decide ((if i < 0 then -i else i) < ((10 : Int) ^ (60 : Int).toNat) ^ (5 : Int).toNat))) H
      rw [e]
      exact q
def spChecked (A : Ads) : Sp := fun vs H Q E => ∃ i : Int, vs = [.int i] ∧ (i.natAbs < lim → Q (.int i) H) ∧ (¬ i.natAbs < lim → Err E A.ScriptError H "OverflowError" "the integer is too large")
theorem ok_checked_integer (L : Lib P K mg A) : FnOk P w K mg base (L2.CX P w) 3 L.checked_integer.f L.checked_integer.fd ["number"] (spChecked A) := by
  have G_is_bounded : FnOk P w K mg base CX0 1 L.is_bounded.f L.is_bounded.fd ["number"] spIsBounded := ok_is_bounded L
  refine L.checked_integer.F.okX sc_checked_integer (fun vs H Q E h => ?_) (fun cdv A' outer s H vs Q E hr h => ?_)
  · obtain ⟨i, rfl, _⟩ := h
    rfl
  · obtain ⟨i, rfl, q1, q2⟩ := h
    refine ⟨_, (pss_cons (ps_if (pt_not (pt_val (pe_call G_is_bounded (hr.mono (by omega)) (by rfl) L.is_bounded.g L.is_bounded.F.kp L.is_bounded.b .nil pass0 (pa_cons (pv 0) pa_nil))))
        (pss_one (ps_raise2 rfl L.x_ScriptError.T (L.x_ScriptError.F _ _) (hr.mono (by omega)) (takes_of rfl rfl rfl rfl) L.x_ScriptError.b (by rfl) L.x_ScriptError.g (pa_cons pe_str (pa_cons pe_str pa_nil))))
        pss_nil)
      (pss_one (ps_ret (pv 0)))), ?_⟩
    refine ⟨_, rfl, i, rfl, _, rfl, ?_⟩
    by_cases hb : i.natAbs < lim
    · rw [show decide (i.natAbs < lim) = true from decide_eq_true hb]
      exact iteF ⟨_, rfl, q1 hb⟩
    · rw [show decide (i.natAbs < lim) = false from decide_eq_false hb]
      exact iteT (made2 (by decide +kernel) (by decide +kernel) (q2 hb))
/-! ### alike -/
theorem kind_I (S : St) (d : Dv) : decide (kindD S d = "integer") = isI d ∧ decide (kindD S d = "text") = isS d := by
  have kn2 : ∀ n, n < 9 → decide (kn n = "integer") = decide (n = 2) ∧ decide (kn n = "text") = decide (n = 3) := by decide +kernel
  obtain ⟨e1, e2⟩ := kind_kn S d
  rw [e1, (kn2 _ e2).1, (kn2 _ e2).2]
  cases d with
  | obj n =>
    have : kc S (.obj n) ≠ 2 ∧ kc S (.obj n) ≠ 3 := by
      show kcT S.things[n]? ≠ 2 ∧ kcT S.things[n]? ≠ 3
      cases S.things[n]? with
      | none => decide
      | some t => cases t <;> simp [kcT]
    exact ⟨decide_eq_false this.1, decide_eq_false this.2⟩
  | _ => exact ⟨rfl, rfl⟩
theorem not_both : ∀ {d : Dv}, isI d = true → isS d = true → False := fun {d} h g => by obtain ⟨i, rfl⟩ := isI_eq h; cases g
def oneKb (ds : List Dv) : Bool := ds.all isI || ds.all isS
theorem oneKb_iff {ds : List Dv} : oneKb ds = true ↔ oneK ds := by
  unfold oneKb oneK
  simp
theorem oneKb_snoc {ds : List Dv} {d e : Dv} (h : oneKb ds = true) (h0 : ds[0]? = some e) : oneKb (ds ++ [d]) = ((isI e && isI d) || (isS e && isS d)) := by
  cases ds with
  | nil => cases h0
  | cons x r =>
    cases h0
    have h1 := oneKb_iff.mp h
    unfold oneKb
    rw [List.all_append, List.all_append]
    rcases h1 with g | g
    · have gi := g e (List.mem_cons_self ..)
      have ga : (e :: r).all isI = true := List.all_eq_true.mpr g
      have ns : isS e = false := by cases e <;> first | rfl | cases gi
      rw [ga, gi, List.all_cons, ns]
      simp [ns]
    · have gi := g e (List.mem_cons_self ..)
      have ga : (e :: r).all isS = true := List.all_eq_true.mpr g
      have ns : isI e = false := by cases e <;> first | rfl | cases gi
      rw [ga, gi, List.all_cons, ns]
      simp
theorem oneKb_take {ds : List Dv} {i : Nat} (h : oneKb (ds.take i) = false) : oneKb ds = false := by
  cases e : oneKb ds with
  | false => rfl
  | true =>
    have := oneKb_iff.mpr ((oneKb_iff.mp e).mono fun d hd => List.mem_of_mem_take (i := i) hd)
    rw [h] at this
    cases this
theorem notIn_it (k : Str) : (if true = true then !inV (V.str k) [V.str "integer", V.str "text"] else inV (V.str k) [V.str "integer", V.str "text"]) = !(decide (k = "integer") || decide (k = "text")) := by
  have e : ∀ x y : Str, decide (V.str x = V.str y) = decide (x = y) := fun x y => by
    rw [decide_eq_decide]
    exact ⟨fun h => by injection h, fun h => by rw [h]⟩
  rw [if_pos rfl]
  congr 1
  have e2 : ∀ x y : Str, (x == y) = decide (y = x) := fun x y => by
    rw [Bool.eq_iff_iff, beq_iff_eq, decide_eq_true_iff]
    exact eq_comm
  unfold inV
  simp [eqV, e2]
def spAlk (P : Program) (w : World) (K : PySem.W.Frag) (A : Ads) : Sp := fun vs H Q E => ∃ (a : Sa) (S : St) (l : Addr) (us : List V) (ds : List Dv), vs = [.ref a.s, .ref l] ∧ SM P w A H a S ∧ SqL K H l us ∧ Hs A H us ds ∧ (∀ d ∈ ds, okV S d) ∧
  ∀ H', Same H H' → (oneKb ds = true → Q .non H') ∧ (oneKb ds = false → Err E A.ScriptError H' "KindError" "wrong argument")
theorem ok_check_alike (L : Lib P K mg A) : FnOk P w K mg base (L2.CX P w) 4 L.check_alike.f L.check_alike.fd ["store", "values"] (spAlk P w K A) := by
  have G_kind_of : FnOk P w K mg base CX0 2 L.kind_of.f L.kind_of.fd ["store", "value"] (spKO P w A) := ok_kind_of L
  have G_check_kind : FnOk P w K mg base (L2.CX P w) 3 L.check_kind.f L.check_kind.fd ["store", "value", "kind"] (spCKX P w A) := ok_check_kind L
  refine L.check_alike.F.okX sc_check_alike (fun vs H Q E h => ?_) (fun cdv A' outer s H vs Q E hr h => ?_)
  · obtain ⟨a, S, l, us, ds, rfl, _⟩ := h
    rfl
  · obtain ⟨a, S, l, us, ds, rfl, hS, hl, hd, ho, q⟩ := h
    have hul := hd.len
    refine ⟨_, (pss_one (ps_for (passes_of rfl) rfl (pi_list (pv 1)) (pg_name (i := 2) sc_check_alike.nd rfl (.inl rfl))
        (pss_cons (ps_if (pt_cmpR op_notIn_seq (pe_call G_kind_of (hr.mono (by omega)) (by rfl) L.kind_of.g L.kind_of.F.kp L.kind_of.b .nil pass0 (pa_cons (pv 0) (pa_cons (pv 2) pa_nil))) (pe_tup (pa_cons pe_str (pa_cons pe_str pa_nil))) (by rfl))
        (pss_one (ps_raise2 rfl L.x_ScriptError.T (L.x_ScriptError.F _ _) (hr.mono (by omega)) (takes_of rfl rfl rfl rfl) L.x_ScriptError.b (by rfl) L.x_ScriptError.g (pa_cons pe_str (pa_cons pe_str pa_nil))))
        pss_nil)
      (pss_one (ps_expr (pe_callS G_check_kind (hr.mono (by omega)) (by rfl) L.check_kind.g L.check_kind.F.kp L.check_kind.b (fun σ => passAt (takes_of rfl rfl rfl rfl) σ) (pa_cons (pv 0) (pa_cons (pv 2) (pa_cons (pe_call G_kind_of (hr.mono (by omega)) (by rfl) L.kind_of.g L.kind_of.F.kp L.kind_of.b .nil pass0 (pa_cons (pv 0) (pa_cons (pe_ix ix_list (pv 1) pe_int (fun _ _ => rfl)) pa_nil))) pa_nil))))))))), ?_⟩
    have kin : ∀ e : Dv, (isI e || isS e) = true → kindD S e ∈ kinds3 := fun e h => by
      rcases Bool.or_eq_true_iff.mp h with g | g
      · obtain ⟨i, rfl⟩ := isI_eq g
        show ("integer" : Str) ∈ kinds3
        decide +kernel
      · obtain ⟨i, rfl⟩ := isS_eq g
        show ("text" : Str) ∈ kinds3
        decide +kernel
    refine ⟨_, rfl, l, rfl, ⟨_, hl⟩, for_list (K := K) (a := l) (xs := us) (fun i σ H' => ∃ y2 : Option V, σ = [some (.ref a.s), some (.ref l), y2] ∧ Same H H' ∧ oneKb (ds.take i) = true) ⟨none, rfl, Same.rf, rfl⟩ (fun i σ H' _ h => by obtain ⟨_, _, s, _⟩ := h; exact s.seq hl) ?_ ?_⟩
    · rintro i v σ H1 hv ⟨y2, rfl, s1, ok⟩
      obtain ⟨d, hdi, hvd⟩ := hd.atv hv
      have od := ho d (List.mem_of_getElem? hdi)
      refine ⟨_, rfl, _, rfl, a, S, v, d, rfl, hS.same s1, hvd.sv (Same.sv s1), od, ?_⟩
      refine ⟨(by show 2 ≤ sizeLine; decide), fun p np => ⟨p, _, rfl, .inr (SqT.of upd_same), rfl, rfl, _, rfl, ?_⟩⟩
      have e1 := kind_I S d
      have s2 : Same H (upd H1 p (.tup [.str "integer", .str "text"])) := s1.trans (same_upd np)
      show (if (if true = true then !inV (V.str (kindD S d)) [V.str "integer", V.str "text"] else inV (V.str (kindD S d)) [V.str "integer", V.str "text"]) = true then _ else _)
      rw [notIn_it, e1.1, e1.2]
      have len : i < ds.length := (List.getElem?_eq_some_iff.mp hdi).1
      have tk : ds.take (i + 1) = ds.take i ++ [d] := by rw [List.take_add_one, hdi]; rfl
      obtain ⟨d0, h0⟩ : ∃ d0, ds[0]? = some d0 := ⟨_, List.getElem?_eq_getElem (by omega)⟩
      obtain ⟨v0, hv0, hvd0⟩ := hd.at h0
      cases hk : (isI d || isS d) with
      | false =>
        refine iteT (made2 (by decide +kernel) (by decide +kernel) ((q _ s2).2 ?_))
        refine oneKb_take (i := i + 1) ?_
        rw [tk]
        unfold oneKb
        rw [List.all_append, List.all_append]
        obtain ⟨k1, k2⟩ := Bool.or_eq_false_iff.mp hk
        simp [k1, k2]
      | true =>
        have o0 : (isI d0 || isS d0) = true := by
          by_cases hi : i = 0
          · subst hi
            rw [hdi] at h0
            cases h0
            exact hk
          · have m0 : d0 ∈ ds.take i := List.mem_of_getElem? (i := 0) (by rw [List.getElem?_take_of_lt (by omega)]; exact h0)
            rcases oneKb_iff.mp ok with g | g
            · rw [g d0 m0]; rfl
            · rw [g d0 m0, Bool.or_true]
        have fe : fits S d (kindD S d0) = oneKb (ds.take (i + 1)) := by
          have any : ("any" : Str) ≠ "integer" ∧ ("any" : Str) ≠ "text" := by decide +kernel
          have na : decide (kindD S d0 = "any") = false := decide_eq_false fun z => by
            have := kind_I S d0
            rw [z, decide_eq_false any.1, decide_eq_false any.2] at this
            rw [← this.1, ← this.2] at o0
            cases o0
          unfold fits
          rw [na, Bool.false_or, tk]
          have both : ∀ e : Dv, (isI e || isS e) = true → kindD S e = if isI e = true then "integer" else "text" := fun e h => by
            rcases Bool.or_eq_true_iff.mp h with g | g
            · obtain ⟨i, rfl⟩ := isI_eq g
              rfl
            · obtain ⟨i, rfl⟩ := isS_eq g
              rfl
          have it : ¬ ("integer" : Str) = "text" ∧ ¬ ("text" : Str) = "integer" := by decide +kernel
          by_cases hi : i = 0
          · subst hi
            rw [hdi] at h0
            cases h0
            rw [decide_eq_true rfl]
            show true = oneKb [d]
            unfold oneKb
            simp
            simpa using hk.symm
          · have h0' : (ds.take i)[0]? = some d0 := by rw [List.getElem?_take_of_lt (by omega)]; exact h0
            rw [oneKb_snoc ok h0', both d hk, both d0 o0]
            cases c0 : isI d0 <;> cases c1 : isS d0 <;> cases c2 : isI d <;> cases c3 : isS d <;> simp [c0, c1, c2, c3, it.1, it.2] at o0 hk ⊢
            all_goals first | exact (not_both c0 c1).elim | exact (not_both c2 c3).elim
        refine iteF ?_
        refine ⟨_, rfl, _, rfl, _, rfl, _, rfl, l, us, _, v0, rfl, rfl, s2.seq hl, atI_nat (j := 0) hv0, a, S, v0, d0, rfl, hS.same s2, hvd0.sv (Same.sv s2), ho _ (List.mem_of_getElem? h0), a, S, v, d, kindD S d0, rfl, hS.same s2, hvd.sv (Same.sv s2), od, kin d0 o0, fun f => ?_, fun f => ?_⟩
        · exact ⟨_, rfl, s2, by rw [← fe]; exact f⟩
        · refine (q _ s2).2 (oneKb_take (i := i + 1) ?_)
          rw [← fe]
          exact f
    · rintro σ H1 ⟨y2, rfl, s1, ok⟩
      rw [hul, List.take_length] at ok
      exact (q H1 s1).1 ok
end
end My
namespace My
open PySem L2 SX XT XS XE XD XL XZ
open C8 (pss_cut tCut cutS_slice pe_gc)
/-! ### the methods -/
inductive Rs where
  | val (d : Dv) (ds : List Dv)
  | prs (es : List (Dv × Dv))
  | err (k m : Str)
inductive Cl where
  | join (z : Str)
  | sum
  | sort
  | extend (k : Nat)
  | zip (k : Nat)
def Cl.args : Cl → List Dv
  | .join z => [.str z] | .sum => [] | .sort => [] | .extend k => [.obj k] | .zip k => [.obj k]
def Cl.nm : Cl → Str
  | .join _ => "join" | .sum => "sum" | .sort => "sort" | .extend _ => "extend" | .zip _ => "zip"
def Cl.kinds : Cl → List Str
  | .join _ => ["text"] | .sum => [] | .sort => [] | .extend _ => ["list"] | .zip _ => ["list"]
def toI : Dv → Int
  | .int i => i
  | _ => 0
def sumI (ds : List Dv) : Int := (ds.map toI).sum
def partsD (S : St) (k : Nat) : List Dv := match S.things[k]? with
  | some (.parts es) => es
  | _ => []
open Classical in
noncomputable def srt (ds : List Dv) : List Dv := if h : ∃ es, Srtd ds es then h.choose else ds
theorem srt_eq {ds es : List Dv} (k : oneK ds) (h : Srtd ds es) : srt ds = es := by
  unfold srt
  have he : ∃ es, Srtd ds es := ⟨es, h⟩
  rw [dif_pos he]
  exact Srtd.uniq k he.choose_spec h
noncomputable def Cl.res (S : St) (ds : List Dv) : Cl → Rs
  | .join z => if szP (jp S 1000 z ds []) ≤ 1000 then .val (.str (cat (jp S 1000 z ds []))) ds else .err "SizeError" "too large"
  | .sum => if ds.all isI = true then (if (sumI ds).natAbs < lim then .val (.int (sumI ds)) ds else .err "OverflowError" "the integer is too large") else .err "KindError" "wrong argument"
  | .sort => if oneKb ds = true then .val .non (srt ds) else .err "KindError" "wrong argument"
  | .extend k => if ds.length + (partsD S k).length ≤ 1000 then .val .non (ds ++ partsD S k) else .err "SizeError" "too large"
  | .zip k => .prs (ds.zip (partsD S k))
/-- what the calls ask of the store and its list -/
def Cl.pre (S : St) (ds : List Dv) : Cl → Prop
  | .join z => z.length ≤ 100 ∧ WfS S ∧ ∀ d ∈ ds, okW S d
  | .sum => ∀ d ∈ ds, okV S d
  | .sort => (∀ d ∈ ds, okV S d) ∧ (ds.all isS = true → ds.length < 64)
  | .extend k => ∃ es, S.things[k]? = some (.parts es) ∧ es.length ≤ 1000
  | .zip k => S.things.length < 50000 ∧ ∃ es, S.things[k]? = some (.parts es) ∧ es.length ≤ 1000
theorem okV_of {S : St} {d : Dv} (h : okW S d) : okV S d := by
  cases d with
  | obj n => exact h
  | _ => trivial
def kinsP (es : List (Dv × Dv)) : List Th := es.map fun p => .parts [p.1, p.2]
def ids (n k : Nat) : List Dv := (List.range k).map fun j => .obj (n + j)
theorem ids_len {n k : Nat} : (ids n k).length = k := by simp [ids]
theorem ids_succ {n k : Nat} : ids n (k + 1) = ids n k ++ [.obj (n + k)] := by
  unfold ids
  rw [List.range_succ, List.map_append]
  rfl
/-- the store behind a zip -/
def St.zipped (S : St) (es : List (Dv × Dv)) : St := { S with things := S.things ++ kinsP es ++ [.parts (ids S.things.length es.length)] }
def Rs.q (P : Program) (w : World) (A : Ads) (a : Sa) (S : St) (n : Nat) (x : Addr) (H : Hp) (Q : VK) (E : XK) : Rs → Prop
  | .val d es => ∀ H' a' m' v, Ev a a' H H' → Pt P w A H' a' (S.put n es) n x m' es → Has A H' v d → Q v H'
  | .prs es => ∀ H' r a', Ev a a' H H' → SM P w A H' a' (S.zipped es) → Has A H' (.ref r) (.obj (S.things.length + es.length)) → Q (.ref r) H'
  | .err k m => ∀ H', Same H H' → Err E A.ScriptError H' k m
theorem Rs.q_same {P : Program} {w : World} {A : Ads} {a : Sa} {S : St} {n : Nat} {x : Addr} {H H2 : Hp} {Q : VK} {E : XK} (s : Same H H2) : ∀ {r : Rs}, r.q P w A a S n x H Q E → r.q P w A a S n x H2 Q E
  | .val _ _, h => fun H' a' m' v ev => h H' a' m' v ((Ev.same s).trans ev)
  | .prs _, h => fun H' r a' ev => h H' r a' ((Ev.same s).trans ev)
  | .err _ _, h => fun H' s' => h H' (s.trans s')
theorem put_same {S : St} {n : Nat} {ds : List Dv} (h : S.things[n]? = some (.parts ds)) : S.put n ds = S := by
  obtain ⟨t, o, l, k⟩ := S
  have h : t[n]? = some (.parts ds) := h
  show St.mk (t.set n (.parts ds)) o l k = _
  have : t.set n (.parts ds) = t := by
    apply List.ext_getElem?
    intro i
    by_cases e : n = i
    · subst e
      rw [List.getElem?_set_self (List.getElem?_eq_some_iff.mp h).1, h]
    · rw [List.getElem?_set_ne e]
  rw [this]
def spAct (P : Program) (w : World) (A : Ads) (c : Cl) : Sp := fun vs H Q E => ∃ (a : Sa) (S : St) (n : Nat) (x m : Addr) (ds : List Dv) (us : List V), vs = .ref a.s :: .ref x :: us ∧ Pt P w A H a S n x m ds ∧ Hs A H us c.args ∧ ds.length ≤ 1000 ∧ c.pre S ds ∧ (c.res S ds).q P w A a S n x H Q E
theorem hs1 {A : Ads} {H : Hp} {us : List V} {d : Dv} (h : Hs A H us [d]) : ∃ v, us = [v] ∧ Has A H v d := by
  match us, h with
  | [v], h => exact ⟨v, rfl, h.1⟩
theorem hs0 {A : Ads} {H : Hp} {us : List V} (h : Hs A H us []) : us = [] := by
  match us, h with
  | [], _ => rfl
section
variable {P : Program} {w : World} {K : PySem.W.Frag} {mg : Str → Option Value} {base : Heap} {A : Ads}
/-- the list of integers, as values -/
theorem ints_V {H : Hp} : ∀ {us : List V} {ds : List Dv}, Hs A H us ds → ds.all isI = true → us = (ds.map toI).map V.int
  | [], [], _, _ => rfl
  | v :: us, d :: ds, h, g => by
    rw [List.all_cons, Bool.and_eq_true] at g
    obtain ⟨i, rfl⟩ := isI_eq g.1
    have h1 : v = .int i := h.1
    rw [h1, ints_V h.2 g.2]
    rfl
  | [], _ :: _, h, _ => h.elim
  | _ :: _, [], h, _ => h.elim
def toS : Dv → Str
  | .str x => x
  | _ => ""
theorem strs_V {H : Hp} : ∀ {us : List V} {ds : List Dv}, Hs A H us ds → ds.all isS = true → us = (ds.map toS).map V.str
  | [], [], _, _ => rfl
  | v :: us, d :: ds, h, g => by
    rw [List.all_cons, Bool.and_eq_true] at g
    obtain ⟨i, rfl⟩ := isS_eq g.1
    have h1 : v = .str i := h.1
    rw [h1, strs_V h.2 g.2]
    rfl
  | [], _ :: _, h, _ => h.elim
  | _ :: _, [], h, _ => h.elim
theorem ints_D {ds : List Dv} (g : ds.all isI = true) : ds = (ds.map toI).map Dv.int := by
  induction ds with
  | nil => rfl
  | cons d r ih =>
    rw [List.all_cons, Bool.and_eq_true] at g
    obtain ⟨i, rfl⟩ := isI_eq g.1
    rw [List.map_cons, List.map_cons, ← ih g.2]
    rfl
theorem strs_D {ds : List Dv} (g : ds.all isS = true) : ds = (ds.map toS).map Dv.str := by
  induction ds with
  | nil => rfl
  | cons d r ih =>
    rw [List.all_cons, Bool.and_eq_true] at g
    obtain ⟨i, rfl⟩ := isS_eq g.1
    rw [List.map_cons, List.map_cons, ← ih g.2]
    rfl
theorem hs_intsL {H : Hp} : ∀ ns : List Int, Hs A H (ns.map V.int) (ns.map Dv.int)
  | [] => trivial
  | _ :: r => ⟨rfl, hs_intsL r⟩
theorem ok_total (L : Lib P K mg A) : FnOk P w K mg base (L2.CX P w) 7 L.total.f L.total.fd ["store", "parts"] (spAct P w A .sum) := by
  have G_check_kind : FnOk P w K mg base (L2.CX P w) 3 L.check_kind.f L.check_kind.fd ["store", "value", "kind"] (spCKX P w A) := ok_check_kind L
  have G_checked_integer : FnOk P w K mg base (L2.CX P w) 3 L.checked_integer.f L.checked_integer.fd ["number"] (spChecked A) := ok_checked_integer L
  refine L.total.F.okX (k := 6) sc_total (fun vs H Q E h => ?_) (fun cdv A' outer s H vs Q E hr h => ?_)
  · obtain ⟨a, S, n, x, m, ds, us, rfl, _, h, _⟩ := h
    cases hs0 h
    rfl
  · obtain ⟨a, S, n, x, m, ds, us, rfl, hp, h, hz, pre, q⟩ := h
    cases hs0 h
    obtain ⟨dx, vs, h1, h2, h3⟩ := hp.at_
    have hl := h3.len
    have q : Rs.q P w A a S n x H Q E (if ds.all isI = true then (if (sumI ds).natAbs < lim then .val (.int (sumI ds)) ds else .err "OverflowError" "the integer is too large") else .err "KindError" "wrong argument") := q
    refine ⟨_, (pss_cons (ps_for (passes_of rfl) rfl (pi_list (pe_fld (pv 1) rfl)) (pg_name (i := 2) sc_total.nd rfl (.inl rfl))
        (pss_one (ps_expr (pe_callS G_check_kind (hr.mono (by omega)) (by rfl) L.check_kind.g L.check_kind.F.kp L.check_kind.b (fun σ => passAt (takes_of rfl rfl rfl rfl) σ) (pa_cons (pv 0) (pa_cons (pv 2) (pa_cons pe_str pa_nil)))))))
      (pss_one (ps_ret (pe_callS G_checked_integer (hr.mono (by omega)) (by rfl) L.checked_integer.g L.checked_integer.F.kp L.checked_integer.b (fun σ => passAt (takes_of rfl rfl rfl rfl) σ) (pa_cons (pe_callB (cr_sum rfl) (by rfl) L.z_sum (by decide +kernel) (pa_cons (pe_fld (pv 1) rfl) pa_nil)) pa_nil))))), ?_⟩
    refine ⟨_, rfl, x, A.Parts, dx, _, _, rfl, h1, L.c_Parts.cl, L.n_Parts_held, lk_hit, m, rfl, ⟨_, SqL.of h2⟩, for_list (K := K) (a := m) (xs := vs) (fun i σ H' => ∃ y2 : Option V, σ = [some (.ref a.s), some (.ref x), y2] ∧ H' = H ∧ (ds.take i).all isI = true) ⟨none, rfl, rfl, rfl⟩ (fun i σ H' _ h => by obtain ⟨_, _, rfl, _⟩ := h; exact SqL.of h2) ?_ ?_⟩
    · rintro i v σ H1 hv ⟨y2, rfl, rfl, ok⟩
      obtain ⟨d, hdi, hvd⟩ := h3.atv hv
      have od := pre d (List.mem_of_getElem? hdi)
      have tk : ds.take (i + 1) = ds.take i ++ [d] := by rw [List.take_add_one, hdi]; rfl
      have fi : fits S d "integer" = isI d := by
        unfold fits
        have any : decide (("integer" : Str) = "any") = false := by decide +kernel
        rw [any, Bool.false_or, ← (kind_I S d).1, decide_eq_decide]
        exact eq_comm
      refine ⟨_, rfl, _, rfl, a, S, v, d, "integer", rfl, hp.sm, hvd, od, by decide +kernel, fun f => ?_, fun f => ?_⟩
      · refine ⟨_, rfl, rfl, ?_⟩
        rw [tk, List.all_append, ok, List.all_cons, ← fi, f]
        rfl
      · have : ds.all isI = false := by
          cases e : ds.all isI with
          | false => rfl
          | true =>
            have := List.all_eq_true.mp e d (List.mem_of_getElem? hdi)
            rw [← fi, f] at this
            cases this
        rw [this] at q
        exact q H1 Same.rf
    · rintro σ H1 ⟨y2, rfl, rfl, ok⟩
      rw [hl, List.take_length] at ok
      rw [if_pos ok] at q
      have ev : vs = (ds.map toI).map V.int := ints_V h3 ok
      refine ⟨_, rfl, x, A.Parts, dx, _, _, rfl, h1, L.c_Parts.cl, L.n_Parts_held, lk_hit, m, ds.map toI, rfl, by rw [← ev]; exact SqL.of h2, _, rfl, fun g => ?_, fun g => ?_⟩
      · rw [if_pos (show (sumI ds).natAbs < lim from g)] at q
        exact q H1 a m _ Ev.rfl' (by rw [put_same hp.th]; exact hp) rfl
      · rw [if_neg (show ¬ (sumI ds).natAbs < lim from g)] at q
        exact q H1 Same.rf
end
end My
namespace My
open PySem L2 SX XT XS XE XD XL XZ
open C8 (pss_cut tCut cutS_slice pe_gc)
theorem rising_pw : ∀ {p : Str} {l : List Str}, PyProof.Rows.risingS p l = true → (p :: l).Pairwise fun a b => ¬ b.cps.toList < a.cps.toList
  | p, [], _ => List.pairwise_singleton _ _
  | p, x :: r, h => by
    have h : (!Spec.ltCps x.cps.toList p.cps.toList && PyProof.Rows.risingS x r) = true := h
    rw [Bool.and_eq_true] at h
    have h1 : ¬ x.cps.toList < p.cps.toList := fun z => by
      have e := h.1
      rw [PyProof.Rows.ltCps_eq, decide_eq_true z] at e
      cases e
    have ih := rising_pw h.2
    refine List.pairwise_cons.mpr ⟨fun y hy => ?_, ih⟩
    rcases List.mem_cons.mp hy with rfl | hy
    · exact h1
    · have h2 := (List.pairwise_cons.mp ih).1 y hy
      exact List.not_lt.mpr (List.le_trans (List.not_lt.mp h1) (List.not_lt.mp h2))
theorem sorted_pw {l : List Str} (h : PyProof.Rows.sortedS l = true) : l.Pairwise fun a b => ¬ b.cps.toList < a.cps.toList := by
  cases l with
  | nil => exact List.Pairwise.nil
  | cons x r => exact rising_pw h
theorem srtd_I {ds : List Dv} (g : ds.all isI = true) {ns : List Int} (p : ns.Perm (ds.map toI)) (s : ns.Pairwise (· ≤ ·)) : Srtd ds (ns.map Dv.int) := by
  refine ⟨?_, ?_⟩
  · have := p.map Dv.int
    rw [← ints_D g] at this
    exact this
  · refine List.pairwise_map.mpr (s.imp fun {a b} h => ?_)
    exact decide_eq_false (by omega)
theorem srtd_S {ds : List Dv} (g : ds.all isS = true) {ns : List Str} (p : ns.Perm (ds.map toS)) (s : PyProof.Rows.sortedS ns = true) : Srtd ds (ns.map Dv.str) := by
  refine ⟨?_, ?_⟩
  · have := p.map Dv.str
    rw [← strs_D g] at this
    exact this
  · refine List.pairwise_map.mpr ((sorted_pw s).imp fun {a b} h => ?_)
    exact decide_eq_false h
theorem hs_strsL {A : Ads} {H : Hp} : ∀ ns : List Str, Hs A H (ns.map V.str) (ns.map Dv.str)
  | [] => trivial
  | _ :: r => ⟨rfl, hs_strsL r⟩
section
variable {P : Program} {w : World} {K : PySem.W.Frag} {mg : Str → Option Value} {base : Heap} {A : Ads}
theorem ok_sort (L : Lib P K mg A) : FnOk P w K mg base (L2.CX P w) 7 L.sort.f L.sort.fd ["store", "parts"] (spAct P w A .sort) := by
  have G_check_alike : FnOk P w K mg base (L2.CX P w) 4 L.check_alike.f L.check_alike.fd ["store", "values"] (spAlk P w K A) := ok_check_alike L
  refine L.sort.F.okX (k := 6) sc_sort (fun vs H Q E h => ?_) (fun cdv A' outer s H vs Q E hr h => ?_)
  · obtain ⟨a, S, n, x, m, ds, us, rfl, _, h, _⟩ := h
    cases hs0 h
    rfl
  · obtain ⟨a, S, n, x, m, ds, us, rfl, hp, h, hz, pre, q⟩ := h
    cases hs0 h
    obtain ⟨dx, vs, h1, h2, h3⟩ := hp.at_
    have hl := h3.len
    have q : Rs.q P w A a S n x H Q E (if oneKb ds = true then .val .non (srt ds) else .err "KindError" "wrong argument") := q
    have fin : ∀ (H' : Hp) (D : Addr) (es : List Dv) (us : List V), Same H H' → oneKb ds = true → Srtd ds es → Hs A H' us es → H' D = none → Q .non (upd (upd H' D (.lst us)) x (.ins A.Parts dx [("held", .ref D)])) := fun H' D es us s1 ok hs hu nD => by
      rw [if_pos ok, srt_eq (oneKb_iff.mp ok) hs] at q
      obtain ⟨ev, pt⟩ := (hp.same s1).turn L (s1 _ _ h1) hu nD
      exact q _ _ D .non ((Ev.same s1).trans ev) pt rfl
    by_cases hI : ds.all isI = true
    · refine ⟨_, (pss_cons (ps_expr (pe_callS G_check_alike (hr.mono (by omega)) (by rfl) L.check_alike.g L.check_alike.F.kp L.check_alike.b (fun σ => passAt (takes_of rfl rfl rfl rfl) σ) (pa_cons (pv 0) (pa_cons (pe_fld (pv 1) rfl) pa_nil))))
      (pss_one (ps_fld (pv 1) (pe_callB cr_sortedI (by rfl) L.z_sorted (by decide +kernel) (pa_cons (pe_fld (pv 1) rfl) pa_nil)) rfl))), ?_⟩
      refine ⟨_, rfl, _, rfl, x, A.Parts, dx, _, _, rfl, h1, L.c_Parts.cl, L.n_Parts_held, lk_hit, a, S, m, vs, ds, rfl, hp.sm, SqL.of h2, h3, pre.1, fun H1 s1 => ⟨fun ok => ?_, fun ok => ?_⟩⟩
      · have ev : vs = (ds.map toI).map V.int := ints_V h3 hI
        refine ⟨_, rfl, x, A.Parts, dx, _, _, rfl, s1 _ _ h1, L.c_Parts.cl, L.n_Parts_held, lk_hit, m, ds.map toI, rfl, by rw [← ev]; exact SqL.of (s1 _ _ h2), fun ns' D pm pw nD => ?_⟩
        refine ⟨_, rfl, x, A.Parts, dx, _, rfl, (by rw [upd_ne (ne_of_none (s1 _ _ h1) nD)]; exact s1 _ _ h1), L.c_Parts.cl, L.n_Parts_held, (by show 1 < 1000; decide), ?_⟩
        exact fin H1 D _ _ s1 ok (srtd_I hI pm pw) (hs_intsL ns') nD
      · rw [if_neg (by rw [ok]; nofun)] at q
        exact q H1 s1
    · refine ⟨_, (pss_cons (ps_expr (pe_callS G_check_alike (hr.mono (by omega)) (by rfl) L.check_alike.g L.check_alike.F.kp L.check_alike.b (fun σ => passAt (takes_of rfl rfl rfl rfl) σ) (pa_cons (pv 0) (pa_cons (pe_fld (pv 1) rfl) pa_nil))))
      (pss_one (ps_fld (pv 1) (pe_callB cr_sortedS (by rfl) L.z_sorted (by decide +kernel) (pa_cons (pe_fld (pv 1) rfl) pa_nil)) rfl))), ?_⟩
      refine ⟨_, rfl, _, rfl, x, A.Parts, dx, _, _, rfl, h1, L.c_Parts.cl, L.n_Parts_held, lk_hit, a, S, m, vs, ds, rfl, hp.sm, SqL.of h2, h3, pre.1, fun H1 s1 => ⟨fun ok => ?_, fun ok => ?_⟩⟩
      · have hS : ds.all isS = true := by
          rcases Bool.or_eq_true_iff.mp ok with g | g
          · exact absurd g hI
          · exact g
        have ev : vs = (ds.map toS).map V.str := strs_V h3 hS
        refine ⟨_, rfl, x, A.Parts, dx, _, _, rfl, s1 _ _ h1, L.c_Parts.cl, L.n_Parts_held, lk_hit, m, ds.map toS, rfl, by rw [← ev]; exact SqL.of (s1 _ _ h2), by rw [List.length_map]; exact pre.2 hS, fun ns' D pm pw nD => ?_⟩
        refine ⟨_, rfl, x, A.Parts, dx, _, rfl, (by rw [upd_ne (ne_of_none (s1 _ _ h1) nD)]; exact s1 _ _ h1), L.c_Parts.cl, L.n_Parts_held, (by show 1 < 1000; decide), ?_⟩
        exact fin H1 D _ _ s1 ok (srtd_S hS pm pw) (hs_strsL ns') nD
      · rw [if_neg (by rw [ok]; nofun)] at q
        exact q H1 s1
theorem ok_extend (L : Lib P K mg A) (k : Nat) : FnOk P w K mg base (L2.CX P w) 7 L.extend.f L.extend.fd ["store", "parts", "other"] (spAct P w A (.extend k)) := by
  have G_check_sizeX : FnOk P w K mg base (L2.CX P w) 3 L.check_size.f L.check_size.fd ["size"] (spCSX A) := ok_check_sizeX L
  have G_Store_at : FnOk P w K mg base CX0 1 L.Store_at.f L.Store_at.fd ["self", "ref"] (spAt P w A) := ok_Store_at L
  refine L.extend.F.okX (k := 6) sc_extend (fun vs H Q E h => ?_) (fun cdv A' outer s H vs Q E hr h => ?_)
  · obtain ⟨a, S, n, x, m, ds, us, rfl, _, h, _⟩ := h
    obtain ⟨v, rfl, _⟩ := hs1 h
    rfl
  · obtain ⟨a, S, n, x, m, ds, us, rfl, hp, h, hz, hk, q⟩ := h
    obtain ⟨v, rfl, hv⟩ := hs1 h
    obtain ⟨es, hes, ez⟩ := hk
    obtain ⟨b, db, rfl, hb⟩ := id hv
    obtain ⟨dx, vs, h1, h2, h3⟩ := hp.at_
    obtain ⟨y, my, hy, hm, hth⟩ := hp.sm.get hes
    have p2 : Pt P w A H a S k y my es := ⟨hp.sm, hy, hm, hes⟩
    obtain ⟨dy, ws, g1, g2, g3⟩ := p2.at_
    obtain ⟨ds0, hs0⟩ := hp.sm.s_
    have hl := h3.len
    have gl := g3.len
    have pd : partsD S k = es := by
      unfold partsD
      rw [hes]
    have q : Rs.q P w A a S n x H Q E (if ds.length + (partsD S k).length ≤ 1000 then .val .non (ds ++ partsD S k) else .err "SizeError" "too large") := q
    rw [pd] at q
    refine ⟨_, (pss_cons (ps_set (i := 3) sc_extend.nd rfl (.inl rfl) (pe_fld (pe_meth (pv 0) L.c_Store.cl L.Store_at.m G_Store_at (hr.mono (by omega)) L.Store_at.b .nil pass0 (pa_cons (pv 2) pa_nil)) rfl))
      (pss_cons (ps_expr (pe_callS G_check_sizeX (hr.mono (by omega)) (by rfl) L.check_size.g L.check_size.F.kp L.check_size.b (fun σ => passAt (takes_of rfl rfl rfl rfl) σ) (pa_cons (pe_op op_add (pe_callB call_len_seq (by rfl) L.z_len PySem.boot_len (pa_cons (pe_fld (pv 1) rfl) pa_nil)) (pe_callB call_len_seq (by rfl) L.z_len PySem.boot_len (pa_cons (pv 3) pa_nil))) pa_nil)))
      (pss_one (ps_fld (pv 1) (pe_op op_cat (pe_fld (pv 1) rfl) (pv 3)) rfl)))), ?_⟩
    refine ⟨_, rfl, a.s, ds0, _, rfl, hs0, st_no _ _ _ _ (by decide +kernel) (by decide +kernel) (by decide +kernel) (by decide +kernel), _, rfl, a, S, b, y, k, rfl, hp.sm, hv, hy, y, A.Parts, dy, _, _, rfl, g1, L.c_Parts.cl, L.n_Parts_held, lk_hit, ?_⟩
    refine ⟨_, rfl, x, A.Parts, dx, _, _, rfl, h1, L.c_Parts.cl, L.n_Parts_held, lk_hit, m, vs, rfl, .inl (SqL.of h2), _, rfl, my, ws, rfl, .inl (SqL.of g2), _, _, rfl, rfl, _, rfl, fun hs => ?_, fun hs => ?_⟩
    · rw [if_pos (by omega)] at q
      refine ⟨_, rfl, x, A.Parts, dx, _, _, rfl, h1, L.c_Parts.cl, L.n_Parts_held, lk_hit, _, rfl, m, my, vs, ws, rfl, rfl, h2, g2, Nat.le_trans (m := 2000) (by omega) (by decide), fun D nD => ?_⟩
      refine ⟨_, rfl, x, A.Parts, dx, _, rfl, (by rw [upd_ne (ne_of_none h1 nD)]; exact h1), L.c_Parts.cl, L.n_Parts_held, (by show 1 < 1000; decide), ?_⟩
      obtain ⟨ev, pt⟩ := hp.turn L h1 (h3.app g3) nD
      exact q _ _ D .non ev pt rfl
    · rw [if_neg (by omega)] at q
      exact q H Same.rf
end
end My
namespace My
open PySem L2 SX XT XS XE XD XL XZ
open C8 (pss_cut tCut cutS_slice pe_gc)
section
variable {P : Program} {w : World} {K : PySem.W.Frag} {mg : Str → Option Value} {base : Heap} {A : Ads}
def spJd (P : Program) (w : World) (K : PySem.W.Frag) (A : Ads) : Sp := fun vs H Q E => ∃ (a : Sa) (S : St) (l : Addr) (us : List V) (ds : List Dv) (z : Str), vs = [.ref a.s, .ref l, .str z] ∧ SM P w A H a S ∧ SqL K H l us ∧ Hs A H us ds ∧ ds.length ≤ 1000 ∧ WfS S ∧ (∀ d ∈ ds, okW S d) ∧ z.length ≤ 100 ∧
  ∀ H', Same H H' → (szP (jp S 1000 z ds []) ≤ 1000 → Q (.str (cat (jp S 1000 z ds []))) H') ∧ (¬ szP (jp S 1000 z ds []) ≤ 1000 → Err E A.ScriptError H' "SizeError" "too large")
theorem txt_small {S : St} (hw : WfS S) {d : Dv} (ok : okW S d) : (txtD S 1000 d).length ≤ 1001 := by
  cases d with
  | str x => exact Nat.le_trans ok (by decide)
  | _ => show (valS S 1000 _).length ≤ 1001; unfold valS; rw [headS_len2]; omega
theorem ok_joined (L : Lib P K mg A) : FnOk P w K mg base (L2.CX P w) 40 L.joined.f L.joined.fd ["store", "values", "between"] (spJd P w K A) := by
  have G_check_sizeX : FnOk P w K mg base (L2.CX P w) 3 L.check_size.f L.check_size.fd ["size"] (spCSX A) := ok_check_sizeX L
  have G_text_of : FnOk P w K mg base CX0 38 L.text_of.f L.text_of.fd ["store", "value", "most"] (spTO P w A) := ok_text_of L
  refine L.joined.F.okX (k := 39) sc_joined (fun vs H Q E h => ?_) (fun cdv A' outer s H vs Q E hr h => ?_)
  · obtain ⟨a, S, l, us, ds, z, rfl, _⟩ := h
    rfl
  · obtain ⟨a, S, l, us, ds, z, rfl, hS, hl, hd, hz, hw, ho, zl, q⟩ := h
    have hul := hd.len
    refine ⟨_, (pss_cons (ps_set (i := 3) sc_joined.nd rfl (.inl rfl) (pe_lst pa_nil))
      (pss_cons (ps_set (i := 4) sc_joined.nd rfl (.inl rfl) pe_int)
      (pss_cons (ps_for (passes_of rfl) rfl (pi_list (pv 1)) (pg_name (i := 5) sc_joined.nd rfl (.inl rfl))
        (pss_cut (ps_if (pt_truth (pv 3) (by intro _; rfl))
        (pss_cons (ps_expr (pe_bm PySem.F.plainAttrs_list PySem.F.slot_list_append PySem.F.type_list_append mt_append (pv 3) (pa_cons (pv 2) pa_nil)))
      (pss_one (ps_aug (i := 4) sc_joined.nd rfl (.inl rfl) (pe_callB call_len_str (by rfl) L.z_len PySem.boot_len (pa_cons (pv 2) pa_nil)) in_add)))
        pss_nil)
      (pss_cons (ps_expr (pe_bm PySem.F.plainAttrs_list PySem.F.slot_list_append PySem.F.type_list_append mt_append (pv 3) (pa_cons (pe_call G_text_of (hr.mono (by omega)) (by rfl) L.text_of.g L.text_of.F.kp L.text_of.b .nil pass0 (pa_cons (pv 0) (pa_cons (pv 5) (pa_cons (pe_glob (v := .int 1000) (by rfl) L.v_MOST_HELD.choose_spec ⟨_, rfl⟩) pa_nil)))) pa_nil)))
      (pss_cons (ps_aug (i := 4) sc_joined.nd rfl (.inl rfl) (pe_callB call_len_str (by rfl) L.z_len PySem.boot_len (pa_cons (pe_ix ix_list (pv 3) (pe_un un_neg pe_int) (fun _ _ => rfl)) pa_nil)) in_add)
      (pss_one (ps_expr (pe_callS G_check_sizeX (hr.mono (by omega)) (by rfl) L.check_size.g L.check_size.F.kp L.check_size.b (fun σ => passAt (takes_of rfl rfl rfl rfl) σ) (pa_cons (pv 4) pa_nil))))))))
      (pss_one (ps_ret (pe_join pe_str (pv 3))))))), ?_⟩
    refine ⟨(by decide), fun D nD => ?_⟩
    refine ⟨_, rfl, l, rfl, ⟨_, (same_upd nD).seq hl⟩, for_list (K := K) (a := l) (xs := us) (fun i σ H' => ∃ y5 : Option V, σ = [some (.ref a.s), some (.ref l), some (.str z), some (.ref D), some (.int ((szP (jp S 1000 z (ds.take i) []) : Nat) : Int)), y5] ∧ Same H H' ∧ H' D = some (.lst ((jp S 1000 z (ds.take i) []).map V.str)) ∧ szP (jp S 1000 z (ds.take i) []) ≤ 1000 ∧ (jp S 1000 z (ds.take i) []).length ≤ 2 * i) ⟨none, rfl, same_upd nD, upd_same, Nat.zero_le _, Nat.le_refl _⟩ (fun i σ H' _ h => by obtain ⟨_, _, s, _⟩ := h; exact s.seq hl) ?_ ?_⟩
    · rintro i v σ H1 hv ⟨y5, rfl, s1, e1, z1, n1⟩
      obtain ⟨d, hdi, hvd⟩ := hd.atv hv
      have od := ho d (List.mem_of_getElem? hdi)
      have len : i < ds.length := (List.getElem?_eq_some_iff.mp hdi).1
      have tk : ds.take (i + 1) = ds.take i ++ [d] := by rw [List.take_add_one, hdi]; rfl
      have st : jp S 1000 z (ds.take (i + 1)) [] = jstep S 1000 z (jp S 1000 z (ds.take i) []) d := by rw [tk, jp_snoc]
      generalize hps : jp S 1000 z (ds.take i) [] = ps at *
      refine ⟨fun σ' H' => ∃ qs, qs = (if ps = [] then ps else ps ++ [z]) ∧ σ' = [some (.ref a.s), some (.ref l), some (.str z), some (.ref D), some (.int ((szP qs : Nat) : Int)), some v] ∧ Same H H' ∧ H' D = some (.lst (qs.map V.str)), ?_, ?_⟩
      · refine ⟨_, rfl, _, .inl ⟨_, SqL.of e1, rfl⟩, ?_⟩
        by_cases h0 : ps = []
        · refine ifF (by rw [h0]; rfl) ⟨ps, (if_pos h0).symm, rfl, s1, e1⟩
        · refine ifT (by cases ps with
            | nil => exact absurd rfl h0
            | cons _ _ => rfl) ?_
          refine ⟨_, rfl, .inl ⟨rfl, _, SqL.of e1⟩, _, rfl, D, _, _, rfl, rfl, e1, Nat.lt_of_le_of_lt (m := 2000) (by rw [List.length_map]; omega) (by decide), ?_⟩
          refine ⟨_, rfl, _, rfl, _, rfl, Nat.le_trans (m := 100) zl (by decide), _, _, rfl, rfl, ps ++ [z], (if_neg h0).symm, ?_, fun b u e => ?_, ?_⟩
          · rw [szP_snoc]
            rfl
          · rw [upd_ne (ne_of_none e nD)]; exact s1 _ _ e
          · rw [upd_same, List.map_append]; rfl
      rintro σ H2 ⟨qs, hq, rfl, s2, e2⟩
      have nq : qs.length ≤ ps.length + 1 := by
        rw [hq]; split
        · omega
        · rw [List.length_append]; exact Nat.le_refl _
      have qt : jstep S 1000 z ps d = qs ++ [txtD S 1000 d] := by
        unfold jstep
        rw [← hq]
      refine ⟨_, rfl, .inl ⟨rfl, _, SqL.of e2⟩, _, rfl, _, rfl, a, S, 1000, v, d, rfl, hS.same s2, hvd.sv (Same.sv s2), hw, pls hw 1000, od, by decide, fun H3 s3 => ?_⟩
      have e3 := s3 _ _ e2
      have s13 := s2.trans s3
      refine ⟨D, _, .str (txtD S 1000 d), rfl, rfl, e3, Nat.lt_of_le_of_lt (m := 3000) (by rw [List.length_map]; omega) (by decide), ?_⟩
      have tl := txt_small hw od
      have e4 : upd H3 D (.lst (qs.map V.str ++ [.str (txtD S 1000 d)])) D = some (.lst ((qs ++ [txtD S 1000 d]).map V.str)) := by rw [upd_same, List.map_append]; rfl
      have s4 : Same H (upd H3 D (.lst (qs.map V.str ++ [.str (txtD S 1000 d)]))) := fun b u e => by
        rw [upd_ne (ne_of_none e nD)]; exact s13 _ _ e
      generalize upd H3 D _ = H4 at e4 s4 ⊢
      have ll : ((qs ++ [txtD S 1000 d]).map V.str).length = qs.length + 1 := by rw [List.length_map, List.length_append]; rfl
      refine ⟨_, rfl, _, rfl, _, rfl, D, _, _, .str (txtD S 1000 d), rfl, rfl, SqL.of e4, ?_, _, rfl, Nat.le_trans (m := 1001) tl (by decide), _, _, rfl, rfl, _, rfl, ?_⟩
      · rw [List.map_append]
        exact atI_last _ _
      have e5 : (((szP qs : Nat) : Int) + ((txtD S 1000 d).length : Int)) = ((szP (jstep S 1000 z ps d) : Nat) : Int) := by
        rw [qt, szP_snoc]
        rfl
      refine ⟨_, rfl, fun hs => ?_, fun hs => ?_⟩
      · refine ⟨some v, ?_, s4, by rw [st, qt]; exact e4, by rw [st]; omega, ?_⟩
        · rw [st, ← e5]
          rfl
        · rw [st, qt, List.length_append, List.length_singleton]
          omega
      · refine (q _ s4).2 fun z2 => ?_
        have := jp_take (S := S) (m := 1000) (z := z) (ds := ds) (ps := []) (i + 1)
        rw [st] at this
        omega
    · rintro σ H1 ⟨y5, rfl, s1, e1, z1, n1⟩
      rw [hul, List.take_length] at e1 z1 n1
      refine ⟨⟨_, rfl⟩, _, rfl, "", D, jp S 1000 z ds [], rfl, rfl, .inl (SqL.of e1), ?_, (q H1 s1).1 z1⟩
      show szP (jp S 1000 z ds []) + _ * (("" : Str)).length ≤ _
      rw [show (("" : Str)).length = 0 by decide +kernel, Nat.mul_zero]
      omega
theorem ok_join (L : Lib P K mg A) (z : Str) : FnOk P w K mg base (L2.CX P w) 41 L.join.f L.join.fd ["store", "parts", "between"] (spAct P w A (.join z)) := by
  have G_joined : FnOk P w K mg base (L2.CX P w) 40 L.joined.f L.joined.fd ["store", "values", "between"] (spJd P w K A) := ok_joined L
  refine L.join.F.okX (k := 40) sc_join (fun vs H Q E h => ?_) (fun cdv A' outer s H vs Q E hr h => ?_)
  · obtain ⟨a, S, n, x, m, ds, us, rfl, _, h, _⟩ := h
    obtain ⟨v, rfl, _⟩ := hs1 h
    rfl
  · obtain ⟨a, S, n, x, m, ds, us, rfl, hp, h, hz, hk, q⟩ := h
    obtain ⟨v, rfl, hv⟩ := hs1 h
    cases hv
    obtain ⟨dx, vs, h1, h2, h3⟩ := hp.at_
    have q : Rs.q P w A a S n x H Q E (if szP (jp S 1000 z ds []) ≤ 1000 then .val (.str (cat (jp S 1000 z ds []))) ds else .err "SizeError" "too large") := q
    refine ⟨_, (pss_one (ps_ret (pe_callS G_joined (hr.mono (by omega)) (by rfl) L.joined.g L.joined.F.kp L.joined.b (fun σ => passAt (takes_of rfl rfl rfl rfl) σ) (pa_cons (pv 0) (pa_cons (pe_fld (pv 1) rfl) (pa_cons (pv 2) pa_nil)))))), ?_⟩
    refine ⟨_, rfl, _, rfl, x, A.Parts, dx, _, _, rfl, h1, L.c_Parts.cl, L.n_Parts_held, lk_hit, _, rfl, a, S, m, vs, ds, z, rfl, hp.sm, SqL.of h2, h3, hz, hk.2.1, hk.2.2, hk.1, fun H1 s1 => ⟨fun hs => ?_, fun hs => ?_⟩⟩
    · rw [if_pos hs] at q
      exact q H1 a m _ (Ev.same s1) (by rw [put_same hp.th]; exact hp.same s1) rfl
    · rw [if_neg hs] at q
      exact q H1 s1
end
end My
namespace My
open PySem L2 SX XT XS XE XD XL XZ
open C8 (pss_cut tCut cutS_slice pe_gc)
/-- pairs: tuples of two values each -/
def PrsU (A : Ads) (H : Hp) (us : List V) (es : List (Dv × Dv)) : Prop := us.length = es.length ∧ ∀ (j : Nat) (v : V), us[j]? = some v → ∃ p q k u, es[j]? = some p ∧ v = .ref q ∧ H q = some (.tup [k, u]) ∧ Has A H k p.1 ∧ Has A H u p.2
theorem PrsU.at {A : Ads} {H : Hp} {us : List V} {es : List (Dv × Dv)} {i : Nat} {v : V} (h : PrsU A H us es) (e : us[i]? = some v) : ∃ p q k u, es[i]? = some p ∧ v = .ref q ∧ H q = some (.tup [k, u]) ∧ Has A H k p.1 ∧ Has A H u p.2 := h.2 i v e
section
variable {P : Program} {w : World} {K : PySem.W.Frag} {mg : Str → Option Value} {base : Heap} {A : Ads}
def spHIT (C : Addr) (n : Str) (K : PySem.W.Frag) : Sp := fun vs H Q _ => ∃ x dx l xs, vs = [.ref x, .ref l] ∧ H x = some (.ins C dx []) ∧ (SqL K H l xs ∨ SqT K H l xs) ∧ ∀ H' m, Keep x H H' → H' x = some (.ins C dx [(n, .ref m)]) → H m = none → H' m = some (.lst xs) → Q .non H'
theorem ok_Parts_initT (L : Lib P K mg A) : FnOk P w K mg base CX0 1 L.Parts_init.f L.Parts_init.fd ["self", "held"] (spHIT A.Parts "held" K) := by
  refine L.Parts_init.F.ok sc_Parts_init (fun vs H Q E h => ?_) (fun cdv A' outer s H vs Q E hr h => ?_)
  · obtain ⟨x, dx, l, xs, rfl, _⟩ := h
    rfl
  · obtain ⟨x, dx, l, xs, rfl, hx, hl, q⟩ := h
    refine ⟨_, (pss_one (ps_fld (pv 0) (pe_callTy call_list_of (by rfl) L.z_list (by decide +kernel) (pa_cons (pv 1) pa_nil)) rfl)), ?_⟩
    refine ⟨_, rfl, l, xs, rfl, hl, fun m hm => ⟨_, rfl, x, A.Parts, dx, [], rfl, (by rw [upd_ne (ne_of_none hx hm)]; exact hx), L.c_Parts.cl, L.n_Parts_held, (by show 0 < 1000; decide), ?_⟩⟩
    have nmx : m ≠ x := (ne_of_none hx hm).symm
    exact q _ m (fun b o e n => by rw [upd_ne n, upd_ne (ne_of_none e hm)]; exact e) upd_same hm (by rw [upd_ne nmx]; exact upd_same)
def spMPs (P : Program) (w : World) (K : PySem.W.Frag) (A : Ads) : Sp := fun vs H Q E => ∃ (a : Sa) (S : St) (l : Addr) (us : List V) (es : List (Dv × Dv)), vs = [.ref a.s, .ref l] ∧ SM P w A H a S ∧ H l = some (.lst us) ∧ ¬ a.own l ∧ PrsU A H us es ∧ es.length ≤ 1000 ∧ S.things.length < 50000 ∧
  ∀ H' r a', Ev a a' H H' → SM P w A H' a' { S with things := S.things ++ kinsP es ++ [.parts (ids S.things.length es.length)] } → Has A H' (.ref r) (.obj (S.things.length + es.length)) → Q (.ref r) H'
theorem ok_make_pairs (L : Lib P K mg A) : FnOk P w K mg base CX0 4 L.make_pairs.f L.make_pairs.fd ["store", "pairs"] (spMPs P w K A) := by
  have G_Store_make : FnOk P w K mg base CX0 3 L.Store_make.f L.Store_make.fd ["self", "thing"] (spMake P w A) := ok_Store_make L
  have G_Parts_init : FnOk P w K mg base CX0 1 L.Parts_init.f L.Parts_init.fd ["self", "held"] (spHIT A.Parts "held" K) := ok_Parts_initT L
  refine L.make_pairs.F.ok sc_make_pairs (fun vs H Q E h => ?_) (fun cdv A' outer s H vs Q E hr h => ?_)
  · obtain ⟨a, S, l, us, es, rfl, _⟩ := h
    rfl
  · obtain ⟨a, S, l, us, es, rfl, hS, hl, nl, hE, le, hb, q⟩ := h
    have el := hE.1
    obtain ⟨ds0, hs0⟩ := hS.s_
    refine ⟨_, (pss_one (ps_ret (pe_meth (pv 0) L.c_Store.cl L.Store_make.m G_Store_make (hr.mono (by omega)) L.Store_make.b .nil pass0 (pa_cons (pe_make L.Parts_init.m G_Parts_init (hr.mono (by omega)) (by rfl) L.c_Parts.g L.Parts_init.b .nil pass0 (pa_cons (pe_lc (own := [("pair", 2)]) (g := gName 2) (tt := tYes) (by rfl) sc_make_pairs.nd (pi_list (pv 1)) (blkOk_by (own := [("pair", 2)]) (N := ["store", "pairs", "pair"]) (sc := defScope (top 75)) (by decide +kernel)) (fun _ _ _ _ _ => (pg_name (i := 2) sc_make_pairs.nd rfl (.inl rfl))) (fun _ _ _ _ _ => pts_nil) (fun _ _ _ _ _ => (pe_meth (pv 0) L.c_Store.cl L.Store_make.m G_Store_make (hr.mono (by omega)) L.Store_make.b .nil pass0 (pa_cons (pe_make L.Parts_init.m G_Parts_init (hr.mono (by omega)) (by rfl) L.c_Parts.g L.Parts_init.b .nil pass0 (pa_cons (pv 2) pa_nil)) pa_nil)))) pa_nil)) pa_nil)))), ?_⟩
    refine ⟨_, rfl, a.s, ds0, _, rfl, hs0, st_no _ _ _ _ (by decide +kernel) (by decide +kernel) (by decide +kernel) (by decide +kernel), ?_⟩
    refine ⟨_, rfl, l, rfl, ⟨_, SqL.of hl⟩, fun D nD => ?_⟩
    have D0 : ¬ a.own D := hS.fresh L nD
    have lD : l ≠ D := fun z => by rw [z, nD] at hl; cases hl
    refine lc_list (K := K) (a := l) (xs := us) (fun i H' => ∃ a' vs, Ev a a' H H' ∧ SM P w A H' a' { S with things := S.things ++ kinsP (es.take i) } ∧ ¬ a'.own D ∧ H' D = some (.lst vs) ∧ Hs A H' vs (ids S.things.length i)) ⟨a, [], Ev.same (same_upd nD), (by rw [List.take_zero]; show SM P w A _ a { S with things := S.things ++ [] }; rw [List.append_nil]; exact hS.same (same_upd nD)), D0, upd_same, trivial⟩ (fun i H' _ h => by obtain ⟨a', vs, ev, _⟩ := h; exact SqL.of (ev.fr _ _ hl nl)) ?_ ?_
    · rintro i v H2 hv ⟨a1, vs, ev, sm, nD1, e1, e2⟩
      obtain ⟨p, qa, k, u, hp', rfl, hq, hk', hu'⟩ := PrsU.at hE hv
      have vk := ev.fr.vk L hS
      have li : i < es.length := (List.getElem?_eq_some_iff.mp hp').1
      have lv := e2.len
      rw [ids_len] at lv
      obtain ⟨ds1, hs1⟩ := sm.s_
      have as1 := ev.s
      refine ⟨rfl, ?_⟩
      refine ⟨_, rfl, a.s, ds1, _, rfl, by rw [← as1]; exact hs1, st_no _ _ _ _ (by decide +kernel) (by decide +kernel) (by decide +kernel) (by decide +kernel), _, rfl, ?_⟩
      intro x dy nx ndx ndxx
      have sm0 : Same H2 (upd (upd H2 dy (.own x)) x (.ins A.Parts dy [])) := fun b u e => by
        rw [upd_ne (ne_of_none e nx), upd_ne (ne_of_none e ndx)]
        exact e
      refine ⟨x, dy, qa, [k, u], rfl, upd_same, .inr (.inl (.inl (sm0 _ _ (vk.t _ _ hq)))), fun H3 m k1 hx nm hm => ⟨rfl, ?_⟩⟩
      have s1 := Same.made nx ndx k1
      have nm0 : H2 m = none := sm0.free nm
      obtain ⟨g1, g2, g3⟩ := sm.grow L s1 nx nm0
      have kl : (kinsP (es.take i)).length = i := by
        unfold kinsP
        rw [List.length_map, List.length_take]
        omega
      refine ⟨a1, _, x, m, .parts [p.1, p.2], by rw [as1]; rfl, sm.same s1, ⟨dy, [k, u], hx, hm, (vk.v _ _ hk').sv (Same.sv s1), (vk.v _ _ hu').sv (Same.sv s1), trivial⟩, g1, g2, ?_, fun H4 r k2 hS2 nr hr2 => ?_⟩
      · show (S.things ++ kinsP (es.take i)).length < 100000
        rw [List.length_append, kl]
        omega
      have D3 : H3 D = some (.lst vs) := s1 _ _ e1
      have Dt : D ≠ a1.t := fun z => nD1 (.inr (.inl z))
      have D4 : H4 D = some (.lst vs) := k2 _ _ D3 Dt
      have ev4 := g3 H4 k2
      have nD4 := ev4.nin e1 nD1
      have kD : Keep D H4 (upd H4 D (.lst (vs ++ [.ref r]))) := fun b o e n => by rw [upd_ne n]; exact e
      have svD := Keep.sv kD D4
      have vk4 := (ev4.fr.vk L sm).trans (Sv.vk svD)
      have evD : Ev a { a1 with X := a1.X ++ [x], M := a1.M ++ [m] } H (upd H4 D (.lst (vs ++ [.ref r]))) := by
        have e4 := ev.trans ev4
        exact ⟨fun b o e n => kD _ _ (e4.fr _ _ e n) (fun z => by rw [z, nD] at e; cases e), e4.s, e4.gw⟩
      refine ⟨vs, D4, Nat.lt_of_le_of_lt (m := 1000) (by omega) (by decide), _, vs ++ [.ref r], evD, ?_, nD4, upd_same, ?_⟩
      · have := hS2.keep kD D4 nD4
        have ht : es.take (i + 1) = es.take i ++ [p] := by
          rw [List.take_add_one, hp']
          rfl
        rw [ht]
        have kk : kinsP (es.take i ++ [p]) = kinsP (es.take i) ++ [.parts [p.1, p.2]] := by
          unfold kinsP
          rw [List.map_append]
          rfl
        rw [kk, ← List.append_assoc]
        exact this
      · rw [ids_succ]
        have hr3 := hr2.sv svD
        have : (S.things ++ kinsP (es.take i)).length = S.things.length + i := by rw [List.length_append, kl]
        rw [show ({ S with things := S.things ++ kinsP (es.take i) } : St).things.length = S.things.length + i from this] at hr3
        exact Hs.app (e2.imp fun _ _ h => vk4.v _ _ h) (us := [.ref r]) ⟨hr3, trivial⟩
    · rintro H2 ⟨a1, vs, ev, sm, nD1, e1, e2⟩
      have el2 : us.length = es.length := el
      rw [el2] at sm e2
      rw [List.take_length] at sm
      obtain ⟨ds1, hs1⟩ := sm.s_
      have as1 := ev.s
      intro x dy nx ndx ndxx
      have sm0 : Same H2 (upd (upd H2 dy (.own x)) x (.ins A.Parts dy [])) := fun b u e => by
        rw [upd_ne (ne_of_none e nx), upd_ne (ne_of_none e ndx)]
        exact e
      refine ⟨x, dy, D, vs, rfl, upd_same, .inl (SqL.of (sm0 _ _ e1)), fun H3 m k1 hx nm hm => ⟨rfl, ?_⟩⟩
      have s1 := Same.made nx ndx k1
      have nm0 : H2 m = none := sm0.free nm
      obtain ⟨g1, g2, g3⟩ := sm.grow L s1 nx nm0
      have kl : (S.things ++ kinsP es).length = S.things.length + es.length := by
        unfold kinsP
        rw [List.length_append, List.length_map]
      refine ⟨a1, _, x, m, .parts (ids S.things.length es.length), by rw [as1]; rfl, sm.same s1, ⟨dy, vs, hx, hm, e2.imp fun _ _ h => h.sv (Same.sv s1)⟩, g1, g2, ?_, fun H4 r k2 hS2 nr hr2 => ?_⟩
      · show (S.things ++ kinsP es).length < 100000
        rw [kl]
        omega
      rw [show ({ S with things := S.things ++ kinsP es } : St).things.length = S.things.length + es.length from kl] at hr2
      exact q H4 r _ (ev.trans (g3 H4 k2)) hS2 hr2
theorem ok_pair_up (L : Lib P K mg A) (k : Nat) : FnOk P w K mg base (L2.CX P w) 7 L.pair_up.f L.pair_up.fd ["store", "parts", "other"] (spAct P w A (.zip k)) := by
  have G_make_pairs : FnOk P w K mg base CX0 4 L.make_pairs.f L.make_pairs.fd ["store", "pairs"] (spMPs P w K A) := ok_make_pairs L
  have G_Store_at : FnOk P w K mg base CX0 1 L.Store_at.f L.Store_at.fd ["self", "ref"] (spAt P w A) := ok_Store_at L
  refine L.pair_up.F.okX (k := 6) sc_pair_up (fun vs H Q E h => ?_) (fun cdv A' outer s H vs Q E hr h => ?_)
  · obtain ⟨a, S, n, x, m, ds, us, rfl, _, h, _⟩ := h
    obtain ⟨v, rfl, _⟩ := hs1 h
    rfl
  · obtain ⟨a, S, n, x, m, ds, us, rfl, hp, h, hz, hk, q⟩ := h
    obtain ⟨v, rfl, hv⟩ := hs1 h
    obtain ⟨hsz, es, hes, ez⟩ := hk
    obtain ⟨b, db, rfl, hb⟩ := id hv
    obtain ⟨dx, vs, h1, h2, h3⟩ := hp.at_
    obtain ⟨y, my, hy, hm, hth⟩ := hp.sm.get hes
    have p2 : Pt P w A H a S k y my es := ⟨hp.sm, hy, hm, hes⟩
    obtain ⟨dy, ws, g1, g2, g3⟩ := p2.at_
    obtain ⟨ds0, hs0⟩ := hp.sm.s_
    have hl := h3.len
    have gl := g3.len
    have pd : partsD S k = es := by
      unfold partsD
      rw [hes]
    have q : Rs.q P w A a S n x H Q E (.prs (ds.zip (partsD S k))) := q
    rw [pd] at q
    refine ⟨_, (pss_one (ps_ret (pe_call G_make_pairs (hr.mono (by omega)) (by rfl) L.make_pairs.g L.make_pairs.F.kp L.make_pairs.b .nil pass0 (pa_cons (pv 0) (pa_cons (XW.pe_listZip rfl (by rfl) L.z_list (by rfl) L.z_zip (pa_cons (pe_fld (pv 1) rfl) (pa_cons (pe_fld (pe_meth (pv 0) L.c_Store.cl L.Store_at.m G_Store_at (hr.mono (by omega)) L.Store_at.b .nil pass0 (pa_cons (pv 2) pa_nil)) rfl) pa_nil))) pa_nil))))), ?_⟩
    refine ⟨_, rfl, _, rfl, x, A.Parts, dx, _, _, rfl, h1, L.c_Parts.cl, L.n_Parts_held, lk_hit, ?_⟩
    refine ⟨_, rfl, a.s, ds0, _, rfl, hs0, st_no _ _ _ _ (by decide +kernel) (by decide +kernel) (by decide +kernel) (by decide +kernel), _, rfl, a, S, b, y, k, rfl, hp.sm, hv, hy, y, A.Parts, dy, _, _, rfl, g1, L.c_Parts.cl, L.n_Parts_held, lk_hit, ?_⟩
    refine ⟨m, my, vs, ws, rfl, SqL.of h2, SqL.of g2, fun H1 p ts s1 np hp1 tl tj => ?_⟩
    have zl : (ds.zip es).length = min ds.length es.length := List.length_zip
    refine ⟨a, S, p, ts.map V.ref, ds.zip es, rfl, hp.sm.same s1, hp1, hp.sm.fresh L np, ⟨by rw [List.length_map, tl, zl]; omega, fun j v hj => ?_⟩, by rw [zl]; omega, hsz, fun H2 r a' ev sm hr => q H2 r a' ((Ev.same s1).trans ev) sm hr⟩
    rw [List.getElem?_map] at hj
    cases ht : ts[j]? with
    | none => rw [ht] at hj; cases hj
    | some t =>
      rw [ht] at hj
      cases hj
      obtain ⟨u, z, j1, j2, j3⟩ := tj j t ht
      obtain ⟨d, hd, hud⟩ := h3.atv j1
      obtain ⟨e, he, hze⟩ := g3.atv j2
      refine ⟨(d, e), t, u, z, ?_, rfl, j3, hud.sv (Same.sv s1), hze.sv (Same.sv s1)⟩
      rw [List.getElem?_zip_eq_some]
      exact ⟨hd, he⟩
end
end My
namespace My
open PySem L2 SX XT XS XE XD XL XZ
open C8 (pss_cut tCut cutS_slice pe_gc)
/-- calls of methods: good ones, and join with a wrong argument -/
inductive Kl where
  | ok (c : Cl)
  | bad (d : Dv)
def Kl.args : Kl → List Dv
  | .ok c => c.args
  | .bad d => [d]
def Kl.nm : Kl → Str
  | .ok c => c.nm
  | .bad _ => "join"
def Kl.q (P : Program) (w : World) (A : Ads) (a : Sa) (S : St) (n : Nat) (x : Addr) (row : List Dv) (H : Hp) (Q : VK) (E : XK) : Kl → Prop
  | .ok c => c.pre S row ∧ (c.res S row).q P w A a S n x H Q E
  | .bad d => okV S d ∧ fits S d "text" = false ∧ ∀ H', Same H H' → Err E A.ScriptError H' "KindError" "wrong argument"
theorem Rs.mono {P : Program} {w : World} {A : Ads} {a : Sa} {S : St} {n : Nat} {x : Addr} {H : Hp} {Q Q' : VK} {E E' : XK} (hq : ∀ v H', Q v H' → Q' v H') (he : ∀ c d H', E c d H' → E' c d H') : ∀ {r : Rs}, r.q P w A a S n x H Q E → r.q P w A a S n x H Q' E'
  | .val _ _, h => fun H' a' m' v ev p hv => hq _ _ (h H' a' m' v ev p hv)
  | .prs _, h => fun H' r a' ev p hv => hq _ _ (h H' r a' ev p hv)
  | .err _ _, h => fun H' s => (h H' s).mono he
theorem Kl.mono {P : Program} {w : World} {A : Ads} {a : Sa} {S : St} {n : Nat} {x : Addr} {row : List Dv} {H : Hp} {Q Q' : VK} {E E' : XK} (hq : ∀ v H', Q v H' → Q' v H') (he : ∀ c d H', E c d H' → E' c d H') : ∀ {k : Kl}, k.q P w A a S n x row H Q E → k.q P w A a S n x row H Q' E'
  | .ok _, h => ⟨h.1, Rs.mono hq he h.2⟩
  | .bad _, h => ⟨h.1, h.2.1, fun H' s => (h.2.2 H' s).mono he⟩
theorem Kl.q_same {P : Program} {w : World} {A : Ads} {a : Sa} {S : St} {n : Nat} {x : Addr} {row : List Dv} {H H2 : Hp} {Q : VK} {E : XK} (s : Same H H2) : ∀ {k : Kl}, k.q P w A a S n x row H Q E → k.q P w A a S n x row H2 Q E
  | .ok _, h => ⟨h.1, Rs.q_same s h.2⟩
  | .bad _, h => ⟨h.1, h.2.1, fun H' s' => h.2.2 H' (s.trans s')⟩
theorem Cl.kin (c : Cl) : ∀ k ∈ c.kinds, k ∈ kinds3 := by
  have h : ("text" : Str) ∈ kinds3 ∧ ("list" : Str) ∈ kinds3 := by decide +kernel
  cases c <;> intro k hk <;> simp [Cl.kinds] at hk
  · rw [hk]; exact h.1
  · rw [hk]; exact h.2
  · rw [hk]; exact h.2
theorem Cl.klen (c : Cl) : c.args.length = c.kinds.length ∧ c.args.length ≤ 10 := by cases c <;> exact ⟨rfl, by show (_ : Nat) ≤ 10; simp [Cl.args]⟩
theorem parts_kind {S : St} {k : Nat} {es : List Dv} (h : S.things[k]? = some (.parts es)) : kindD S (.obj k) = "list" := by
  show (match S.things[k]? with
    | some d => kindT d
    | none => ("function" : Str)) = ("list" : Str)
  rw [h]
  rfl
theorem Cl.fitsA {S : St} {ds : List Dv} {c : Cl} (h : c.pre S ds) : My.fitsA S c.args c.kinds = true := by
  have one : ∀ d k, k = kindD S d → My.fitsA S [d] [k] = true := fun d k e => by
    subst e
    show (fits S d (kindD S d) && true) = true
    unfold fits
    rw [decide_eq_true (p := kindD S d = kindD S d) rfl, Bool.or_true]
    rfl
  cases c with
  | join z => exact one _ _ rfl
  | sum => rfl
  | sort => rfl
  | extend k => obtain ⟨es, e, _⟩ := h; exact one _ _ (parts_kind e).symm
  | zip k => obtain ⟨_, es, e, _⟩ := h; exact one _ _ (parts_kind e).symm
theorem Cl.okV {S : St} {ds : List Dv} {c : Cl} (h : c.pre S ds) : ∀ d ∈ c.args, okV S d := by
  cases c with
  | join z => intro d hd; simp [Cl.args] at hd; rw [hd]; trivial
  | sum => intro d hd; cases hd
  | sort => intro d hd; cases hd
  | extend k => obtain ⟨es, e, _⟩ := h; intro d hd; simp [Cl.args] at hd; rw [hd]; exact (List.getElem?_eq_some_iff.mp e).1
  | zip k => obtain ⟨_, es, e, _⟩ := h; intro d hd; simp [Cl.args] at hd; rw [hd]; exact (List.getElem?_eq_some_iff.mp e).1
section
variable {P : Program} {w : World} {K : PySem.W.Frag} {mg : Str → Option Value} {base : Heap} {A : Ads}
def Cl.fn (L : Lib P K mg A) : Cl → Addr
  | .join _ => L.join.f | .sum => L.total.f | .sort => L.sort.f | .extend _ => L.extend.f | .zip _ => L.pair_up.f
theorem held (L : Lib P K mg A) : ∀ c : Cl, HeldX P w K mg base 41 (c.fn L) (spAct P w A c)
  | .join z => ⟨_, _, ok_join L z, L.join.F.kp, L.join.b⟩
  | .sum => ⟨_, _, (ok_total L).mono (by omega), L.total.F.kp, L.total.b⟩
  | .sort => ⟨_, _, (ok_sort L).mono (by omega), L.sort.F.kp, L.sort.b⟩
  | .extend k => ⟨_, _, (ok_extend L k).mono (by omega), L.extend.F.kp, L.extend.b⟩
  | .zip k => ⟨_, _, (ok_pair_up L k).mono (by omega), L.pair_up.F.kp, L.pair_up.b⟩
/-- the table of the methods of lists -/
structure Fd (w : World) (L : Lib P K mg A) where
  d : Addr
  es : Array DictEntry
  n : Nat
  kd : KDict K w d es n
  gd : mg "LIST_METHODS" = some (.ref d)
  at_ : ∀ c : Cl, ∃ t k, PySem.W.nsIn K d c.nm = some (some (.ref t)) ∧ (∀ H, SqT K H t [.ref (c.fn L), .ref k]) ∧ ∀ H, SqT K H k (c.kinds.map V.str)
def spMF (K : PySem.W.Frag) (d : Addr) : Sp := fun vs H Q _ => ∃ (z : Str) (r : Option Value), vs = [.str "list", .str z] ∧ PySem.W.nsIn K d z = some r ∧ ((r = none ∧ Q .non H) ∨ ∃ t, r = some (.ref t) ∧ Q (.ref t) H)
theorem ok_method_for (L : Lib P K mg A) (D : Fd w L) : FnOk P w K mg base CX0 1 L.method_for.f L.method_for.fd ["owner", "name"] (spMF K D.d) := by
  refine L.method_for.F.ok sc_method_for (fun vs H Q E h => ?_) (fun cdv A' outer s H vs Q E hr h => ?_)
  · obtain ⟨z, r, rfl, _⟩ := h
    rfl
  · obtain ⟨z, r, rfl, e, q⟩ := h
    refine ⟨_, (pss_cons (ps_if (pt_cmpR op_eq (pv 0) pe_str (nomark _))
        (pss_one (ps_ret (pe_kget D.kd (pe_gc (v := .ref D.d) (by rfl) ⟨_, D.gd, rfl⟩) (pv 1))))
        pss_nil)
      (pss_cons ps_never
      (pss_cons ps_never
      (pss_one ps_never)))), ?_⟩
    refine ⟨_, rfl, rfl, _, rfl, ifT (by decide +kernel) ?_⟩
    refine ⟨rfl, _, rfl, _, rfl, z, r, rfl, e, ?_⟩
    rcases q with ⟨rfl, q⟩ | ⟨t, rfl, q⟩
    · exact .inl ⟨rfl, q⟩
    · exact .inr ⟨_, .ref t, rfl, rfl, q⟩
theorem Pt.kind {H : Hp} {a : Sa} {S : St} {n : Nat} {x m : Addr} {ds : List Dv} (p : Pt P w A H a S n x m ds) : kindD S (.obj n) = ("list" : Str) := parts_kind p.th
theorem Pt.ok {H : Hp} {a : Sa} {S : St} {n : Nat} {x m : Addr} {ds : List Dv} (p : Pt P w A H a S n x m ds) : okV S (.obj n) := (List.getElem?_eq_some_iff.mp p.th).1
def spCM (P : Program) (w : World) (K : PySem.W.Frag) (A : Ads) : Sp := fun vs H Q E => ∃ (a : Sa) (S : St) (n : Nat) (x m : Addr) (row : List Dv) (v : V) (l : Addr) (us : List V) (k : Kl), vs = [.ref a.s, v, .str k.nm, .ref l] ∧ Pt P w A H a S n x m row ∧ Has A H v (.obj n) ∧ SqL K H l us ∧ Hs A H us k.args ∧ row.length ≤ 1000 ∧ k.q P w A a S n x row H Q E
theorem ok_call_method (L : Lib P K mg A) (D : Fd w L) : FnOk P w K mg base (L2.CX P w) 42 L.call_method.f L.call_method.fd ["store", "x", "name", "values"] (spCM P w K A) := by
  have G_kind_of : FnOk P w K mg base CX0 2 L.kind_of.f L.kind_of.fd ["store", "value"] (spKO P w A) := ok_kind_of L
  have G_method_for : FnOk P w K mg base CX0 1 L.method_for.f L.method_for.fd ["owner", "name"] (spMF K D.d) := ok_method_for L D
  have G_refuse_field : FnOk P w K mg base (L2.CX P w) 3 L.refuse_field.f L.refuse_field.fd ["store", "x", "name"] (spRF P w A) := ok_refuse_field L
  have G_check_arguments : FnOk P w K mg base (L2.CX P w) 4 L.check_arguments.f L.check_arguments.fd ["store", "values", "kinds"] (spCAX P w K A) := ok_check_arguments L
  have G_Store_at : FnOk P w K mg base CX0 1 L.Store_at.f L.Store_at.fd ["self", "ref"] (spAt P w A) := ok_Store_at L
  refine L.call_method.F.okX (k := 41) sc_call_method (fun vs H Q E h => ?_) (fun cdv A' outer s H vs Q E hr h => ?_)
  · obtain ⟨a, S, n, x, m, row, v, l, us, k, rfl, _⟩ := h
    rfl
  · obtain ⟨a, S, n, x, m, row, v, l, us, k, rfl, hp, hv, hl, hu, hz, q⟩ := h
    obtain ⟨b, db, rfl, hb0⟩ := id hv
    obtain ⟨ds0, hs0⟩ := hp.sm.s_
    cases k with
    | bad bd =>
      have hS : ∀ f sp, (fun _ : Addr => (none : Option Sp)) f = some sp → HeldX P w K mg base 41 f sp := fun f sp e => by cases e
      obtain ⟨okb, fb, q⟩ := q
      obtain ⟨t, kk, e1, ht, hk⟩ := D.at_ (.join "")
      refine ⟨_, (pss_cons (ps_set (i := 4) sc_call_method.nd rfl (.inl rfl) (pe_call G_method_for (hr.mono (by omega)) (by rfl) L.method_for.g L.method_for.F.kp L.method_for.b .nil pass0 (pa_cons (pe_call G_kind_of (hr.mono (by omega)) (by rfl) L.kind_of.g L.kind_of.F.kp L.kind_of.b .nil pass0 (pa_cons (pv 0) (pa_cons (pv 1) pa_nil))) (pa_cons (pv 2) pa_nil))))
      (pss_cons (ps_if (pt_cmpR op_isN (pv 4) pe_non (nomark _))
        (pss_one (ps_expr (pe_callS G_refuse_field (hr.mono (by omega)) (by rfl) L.refuse_field.g L.refuse_field.F.kp L.refuse_field.b (fun σ => passAt (takes_of rfl rfl rfl rfl) σ) (pa_cons (pv 0) (pa_cons (pv 1) (pa_cons (pv 2) pa_nil))))))
        pss_nil)
      (pss_cons (ps_asg (pv 4) (pg_tup (by rfl) (pgs_cons (pg_name (i := 5) sc_call_method.nd rfl (.inl rfl)) (pgs_cons (pg_name (i := 6) sc_call_method.nd rfl (.inl rfl)) pgs_nil))))
      (pss_cons (ps_expr (pe_callS G_check_arguments (hr.mono (by omega)) (by rfl) L.check_arguments.g L.check_arguments.F.kp L.check_arguments.b (fun σ => passAt (takes_of rfl rfl rfl rfl) σ) (pa_cons (pv 0) (pa_cons (pv 3) (pa_cons (pv 6) pa_nil)))))
      (pss_cons (ps_set (i := 7) sc_call_method.nd rfl (.inl rfl) (pe_ifExp (pt_val (pe_callB call_isi (by rfl) L.z_isinstance (by decide +kernel) (pa_cons (pv 1) (pa_cons (pe_bltn (v := .ty "str") (by rfl) L.z_str (by decide +kernel) rfl) pa_nil)))) (pv 1) (pe_meth (pv 0) L.c_Store.cl L.Store_at.m G_Store_at (hr.mono (by omega)) L.Store_at.b .nil pass0 (pa_cons (pv 1) pa_nil))))
      (pss_one (ps_ret (XS.pe_callXS (k := 41) (i := 5) hS (hr.mono (by omega)) rfl (.inl rfl) (fun σ => passAt (takes_of rfl rfl rfl rfl) σ) (pa_cons (pv 0) (pa_cons (pv 7) (StX.pa_star (pv 3) pa_nil))))))))))), ?_⟩
      refine ⟨_, rfl, _, rfl, a, S, _, _, rfl, hp.sm, hv, hp.ok, ?_⟩
      rw [hp.kind]
      refine ⟨_, rfl, "join", _, rfl, e1, .inr ⟨t, rfl, ?_⟩⟩
      refine ⟨_, rfl, rfl, _, rfl, ifF (decide_eq_false nofun) ?_⟩
      refine ⟨_, rfl, t, _, rfl, ht H, rfl, ?_⟩
      refine ⟨_, _, rfl, _, _, rfl, rfl, ?_⟩
      refine ⟨_, rfl, _, rfl, _, rfl, a, S, l, kk, us, [bd], ["text"], rfl, hp.sm, hl, hu, (fun d hd => by simp at hd; rw [hd]; exact okb), (by show 1 ≤ 10; omega), hk, (Cl.join "").kin, by decide, fun ne => absurd rfl ne, fun e H1 s1 => ⟨fun f => ?_, fun f => q H1 s1⟩⟩
      exfalso
      have : (fits S bd "text" && true) = true := f
      rw [fb] at this
      cases this
    | ok c =>
      have hS : ∀ f sp, (fun g => if g = c.fn L then some (spAct P w A c) else none) f = some sp → HeldX P w K mg base 41 f sp := fun f sp e => by
        by_cases h : f = c.fn L
        · simp only [if_pos h] at e
          cases e
          subst h
          exact held L c
        · simp only [if_neg h] at e
          cases e
      obtain ⟨pre, q⟩ := q
      obtain ⟨t, kk, e1, ht, hk⟩ := D.at_ c
      obtain ⟨len1, len2⟩ := c.klen
      refine ⟨_, (pss_cons (ps_set (i := 4) sc_call_method.nd rfl (.inl rfl) (pe_call G_method_for (hr.mono (by omega)) (by rfl) L.method_for.g L.method_for.F.kp L.method_for.b .nil pass0 (pa_cons (pe_call G_kind_of (hr.mono (by omega)) (by rfl) L.kind_of.g L.kind_of.F.kp L.kind_of.b .nil pass0 (pa_cons (pv 0) (pa_cons (pv 1) pa_nil))) (pa_cons (pv 2) pa_nil))))
      (pss_cons (ps_if (pt_cmpR op_isN (pv 4) pe_non (nomark _))
        (pss_one (ps_expr (pe_callS G_refuse_field (hr.mono (by omega)) (by rfl) L.refuse_field.g L.refuse_field.F.kp L.refuse_field.b (fun σ => passAt (takes_of rfl rfl rfl rfl) σ) (pa_cons (pv 0) (pa_cons (pv 1) (pa_cons (pv 2) pa_nil))))))
        pss_nil)
      (pss_cons (ps_asg (pv 4) (pg_tup (by rfl) (pgs_cons (pg_name (i := 5) sc_call_method.nd rfl (.inl rfl)) (pgs_cons (pg_name (i := 6) sc_call_method.nd rfl (.inl rfl)) pgs_nil))))
      (pss_cons (ps_expr (pe_callS G_check_arguments (hr.mono (by omega)) (by rfl) L.check_arguments.g L.check_arguments.F.kp L.check_arguments.b (fun σ => passAt (takes_of rfl rfl rfl rfl) σ) (pa_cons (pv 0) (pa_cons (pv 3) (pa_cons (pv 6) pa_nil)))))
      (pss_cons (ps_set (i := 7) sc_call_method.nd rfl (.inl rfl) (pe_ifExp (pt_val (pe_callB call_isi (by rfl) L.z_isinstance (by decide +kernel) (pa_cons (pv 1) (pa_cons (pe_bltn (v := .ty "str") (by rfl) L.z_str (by decide +kernel) rfl) pa_nil)))) (pv 1) (pe_meth (pv 0) L.c_Store.cl L.Store_at.m G_Store_at (hr.mono (by omega)) L.Store_at.b .nil pass0 (pa_cons (pv 1) pa_nil))))
      (pss_one (ps_ret (XS.pe_callXS (k := 41) (i := 5) hS (hr.mono (by omega)) rfl (.inl rfl) (fun σ => passAt (takes_of rfl rfl rfl rfl) σ) (pa_cons (pv 0) (pa_cons (pv 7) (StX.pa_star (pv 3) pa_nil))))))))))), ?_⟩
      refine ⟨_, rfl, _, rfl, a, S, _, _, rfl, hp.sm, hv, hp.ok, ?_⟩
      rw [hp.kind]
      refine ⟨_, rfl, c.nm, _, rfl, e1, .inr ⟨t, rfl, ?_⟩⟩
      refine ⟨_, rfl, rfl, _, rfl, ifF (decide_eq_false nofun) ?_⟩
      refine ⟨_, rfl, t, _, rfl, ht H, rfl, ?_⟩
      refine ⟨_, _, rfl, _, _, rfl, rfl, ?_⟩
      refine ⟨_, rfl, _, rfl, _, rfl, a, S, l, kk, us, c.args, c.kinds, rfl, hp.sm, hl, hu, Cl.okV pre, len2, hk, c.kin, by omega, fun ne => absurd len1 ne, fun e H1 s1 => ⟨fun f => ?_, fun f => by rw [Cl.fitsA pre] at f; cases f⟩⟩
      have hp1 := hp.same s1
      obtain ⟨ds1, hs1⟩ := hp1.sm.s_
      have hv1 : Has A H1 (.ref b) (.obj n) := hv.sv (Same.sv s1)
      refine ⟨_, rfl, .ref b, .ty "str", _, _, _, rfl, .ty _, has_ty L hv1, kit_str L (.obj n), _, rfl, iteF ?_⟩
      refine ⟨_, rfl, a.s, ds1, _, rfl, hs1, st_no _ _ _ _ (by decide +kernel) (by decide +kernel) (by decide +kernel) (by decide +kernel), _, rfl, a, S, b, x, n, rfl, hp1.sm, hv1, hp1.x_, ?_⟩
      exact ⟨c.fn L, spAct P w A c, rfl, if_pos rfl, _, rfl, _, rfl, _, rfl, l, _, rfl, .inr (s1.seq hl), a, S, n, x, m, row, us, by rw [List.append_nil], hp1, hu.imp fun _ _ h => h.sv (Same.sv s1), hz, pre, Rs.q_same s1 q⟩
/-! ### what is told -/
inductive Tl where
  | told (d : Dv)
  | err (k m : Str)
def TlAt (A : Ads) (H : Hp) (t : Addr) : Tl → Prop
  | .told d => ∃ v, H t = some (.lst [.str "told", v]) ∧ Has A H v d
  | .err k m => H t = some (.lst [.str k, .str m])
theorem TlAt.same {H H' : Hp} (s : Same H H') {t : Addr} : ∀ {r : Tl}, TlAt A H t r → TlAt A H' t r
  | .told _, ⟨v, h1, h2⟩ => ⟨v, s _ _ h1, h2.sv (Same.sv s)⟩
  | .err _ _, h1 => s _ _ h1
def tQ (Q : VK) : VK := fun v H' => ∀ t, H' t = none → Q (.ref t) (upd H' t (.lst [.str "told", v]))
def tE (A : Ads) (Q : VK) : XK := fun c dd H' => ∃ (d : Addr) (k m : Str) (H0 : Hp), c = .ref A.ScriptError ∧ dd = some d ∧ H0 d = none ∧ H' = upd H0 d (.xd [("message", .str m), ("kind", .str k)]) ∧ ∀ t H2, Same H0 H2 → H2 t = none → Q (.ref t) (upd H2 t (.lst [.str k, .str m]))
/-- how an error is told -/
def TE (A : Ads) (H : Hp) (Q : VK) (k m : Str) : Prop := ∀ H' t, Same H H' → TlAt A H' t (.err k m) → Q (.ref t) H'
theorem TE.err {H H1 : Hp} {Q : VK} {k m : Str} (h : TE A H Q k m) (s : Same H H1) : Err (tE A Q) A.ScriptError H1 k m := fun d hd =>
  ⟨d, k, m, H1, rfl, rfl, hd, rfl, fun t H2 s2 nt => h _ t ((s.trans s2).trans (same_upd nt)) upd_same⟩
def Rs.t (P : Program) (w : World) (A : Ads) (a : Sa) (S : St) (n : Nat) (x : Addr) (H : Hp) (Q : VK) : Rs → Prop
  | .val d es => ∀ H' a' m' t, Ev a a' H H' → Pt P w A H' a' (S.put n es) n x m' es → TlAt A H' t (.told d) → Q (.ref t) H'
  | .prs es => ∀ H' a' t r, Ev a a' H H' → SM P w A H' a' (S.zipped es) → H' t = some (.lst [.str "told", .ref r]) → Has A H' (.ref r) (.obj (S.things.length + es.length)) → Q (.ref t) H'
  | .err k m => TE A H Q k m
def Kl.t (P : Program) (w : World) (A : Ads) (a : Sa) (S : St) (n : Nat) (x : Addr) (row : List Dv) (H : Hp) (Q : VK) : Kl → Prop
  | .ok c => c.pre S row ∧ (c.res S row).t P w A a S n x H Q
  | .bad d => okV S d ∧ fits S d "text" = false ∧ TE A H Q "KindError" "wrong argument"
theorem Kl.tq {a : Sa} {S : St} {n : Nat} {x : Addr} {row : List Dv} {H H1 : Hp} {Q : VK} (s1 : Same H H1) : ∀ {k : Kl}, k.t P w A a S n x row H Q → k.q P w A a S n x row H1 (tQ Q) (tE A Q)
  | .ok c, ⟨h1, h2⟩ => by
    refine ⟨h1, ?_⟩
    revert h2
    cases c.res S row with
    | val d es => exact fun h2 => (fun H' a' m' v ev p hv t nt => h2 _ a' m' t (((Ev.same s1).trans ev).trans (Ev.same (same_upd nt))) (p.same (same_upd nt)) ⟨v, upd_same, hv.sv (Same.sv (same_upd nt))⟩ : Rs.q P w A a S n x H1 (tQ Q) (tE A Q) (.val d es))
    | prs es => exact fun h2 => (fun H' r a' ev sm' hr t nt => h2 _ a' t r (((Ev.same s1).trans ev).trans (Ev.same (same_upd nt))) (sm'.same (same_upd nt)) upd_same (hr.sv (Same.sv (same_upd nt))) : Rs.q P w A a S n x H1 (tQ Q) (tE A Q) (.prs es))
    | err k m => exact fun h2 => (fun H' s => h2.err (s1.trans s) : Rs.q P w A a S n x H1 (tQ Q) (tE A Q) (.err k m))
  | .bad d, h => ⟨h.1, h.2.1, fun H' s => h.2.2.err (s1.trans s)⟩
end
end My
namespace My
open PySem L2 SX XT XS XE XD XL XZ
open C8 (pss_cut tCut cutS_slice pe_gc)
def kindL (ds : List Dv) : Str := if ds.all isI = true then "integers" else if ds.all isS = true then "texts" else "others"
section
variable {P : Program} {w : World} {K : PySem.W.Frag} {mg : Str → Option Value} {base : Heap} {A : Ads}
def spLCall (P : Program) (w : World) (K : PySem.W.Frag) (A : Ads) : Sp := fun vs H Q _ => ∃ (a : Sa) (S : St) (n : Nat) (x m : Addr) (row : List Dv) (l : Addr) (us : List V) (k : Kl), vs = [.ref a.s, .int (n : Nat), .str k.nm, .ref l] ∧ Pt P w A H a S n x m row ∧ SqL K H l us ∧ Hs A H us k.args ∧ row.length ≤ 1000 ∧ k.t P w A a S n x row H Q
theorem ok_law_call (L : Lib P K mg A) (D : Fd w L) : FnOk P w K mg base CX0 43 L.law_call.f L.law_call.fd ["store", "number", "name", "values"] (spLCall P w K A) := by
  have G_call_method : FnOk P w K mg base (L2.CX P w) 42 L.call_method.f L.call_method.fd ["store", "x", "name", "values"] (spCM P w K A) := ok_call_method L D
  have G_Ref_init : FnOk P w K mg base CX0 1 L.Ref_init.f L.Ref_init.fd ["self", "number"] (spI1 A.Ref "number") := ok_Ref_init L
  refine L.law_call.F.ok sc_law_call (fun vs H Q E h => ?_) (fun cdv A' outer s H vs Q E hr h => ?_)
  · obtain ⟨a, S, n, x, m, row, l, us, k, rfl, _⟩ := h
    rfl
  · obtain ⟨a, S, n, x, m, row, l, us, k, rfl, hp, hl, hu, hz, q⟩ := h
    refine ⟨_, (pss_one (ps_try_as (i := 4) (Wout := fun _ _ _ _ => False) rfl rfl sc_law_call.nd rfl rfl ⟨rfl, by decide, .inl L.x_ScriptError.g⟩ takes0 (fun W pn xe tk _ => pss_one (ps_ret (by exact (pe_lst (pa_cons pe_str (pa_cons (by exact (pe_callS G_call_method (hr.mono (by omega)) (by rfl) L.call_method.g L.call_method.F.kp L.call_method.b (fun σ => passAt tk σ) (by exact (pa_cons (pv 0) (pa_cons (pe_make L.Ref_init.m G_Ref_init (hr.mono (by omega)) (by rfl) L.c_Ref.g L.Ref_init.b .nil pass0 (pa_cons (pv 1) pa_nil)) (pa_cons (pv 2) (pa_cons (pv 3) pa_nil))))))) pa_nil)))))) (fun a oe cls d pn hz hf => pss_one (ps_ret (pe_lst (pa_cons (pe_xf L.x_ScriptError.T.xf L.x_ScriptError.T.n1 hz hf (pv 4)) (pa_cons (pe_xf L.x_ScriptError.T.xf L.x_ScriptError.T.n2 hz hf (pv 4)) pa_nil))))))), ?_⟩
    refine ⟨_, rfl, _, rfl, ?_⟩
    intro y dy ny ndy nyd
    refine ⟨y, dy, _, rfl, upd_same, fun H1 k1 hR => ⟨rfl, ?_⟩⟩
    have s1 : Same H H1 := Same.made ny ndy k1
    refine ⟨_, rfl, _, rfl, a, S, n, x, m, row, .ref y, l, us, k, rfl, hp.same s1, ⟨y, dy, rfl, hR⟩, s1.seq hl, hu.imp fun _ _ h => h.sv (Same.sv s1), hz, ?_⟩
    refine Kl.mono (fun v H' h => ⟨by show 2 ≤ sizeLine; decide, fun t ht => h t ht⟩) (fun c dd H' h => ?_) (Kl.tq s1 q)
    obtain ⟨d, kk, mm, H0, rfl, rfl, hd, rfl, h⟩ := h
    have xd : upd H0 d (.xd [("message", .str mm), ("kind", .str kk)]) d = some (.xd [("message", .str mm), ("kind", .str kk)]) := upd_same
    refine ⟨true, L.x_ScriptError.T.te, fun _ a0 _ => ?_, fun q => Bool.noConfusion q⟩
    exact ⟨_, rfl, rfl, rfl, d, _, _, rfl, xd, (by rw [lk_skip (by decide +kernel)]; exact lk_hit), _, rfl, rfl, rfl, d, _, _, rfl, xd, lk_hit, (by show 2 ≤ sizeLine; decide), fun t ht => h t _ (same_upd hd) ht⟩
def spSame (K : PySem.W.Frag) (A : Ads) : Sp := fun vs H Q _ => ∃ (l1 l2 : Addr) (us ws : List V) (ds es : List Dv), vs = [.ref l1, .ref l2] ∧ SqL K H l1 us ∧ SqL K H l2 ws ∧ Hs A H us ds ∧ Hs A H ws es ∧ es.length ≤ 2000 ∧ Q (.bl (decide (ds = es))) H
theorem ok_law_same (L : Lib P K mg A) : FnOk P w K mg base CX0 2 L.law_same.f L.law_same.fd ["parts", "others"] (spSame K A) := by
  refine L.law_same.F.ok sc_law_same (fun vs H Q E h => ?_) (fun cdv A' outer s H vs Q E hr h => ?_)
  · obtain ⟨l1, l2, us, ws, ds, es, rfl, _⟩ := h
    rfl
  · obtain ⟨l1, l2, us, ws, ds, es, rfl, h1, h2, h3, h4, hn, q⟩ := h
    have e3 := h3.len
    have e4 := h4.len
    refine ⟨_, (pss_cons (ps_if (pt_cmpR op_ne (pe_callB call_len_seq (by rfl) L.z_len PySem.boot_len (pa_cons (pv 0) pa_nil)) (pe_callB call_len_seq (by rfl) L.z_len PySem.boot_len (pa_cons (pv 1) pa_nil)) (nomark _))
        (pss_one (ps_ret pe_bl))
        pss_nil)
      (pss_cons (ps_for PassesOwn.never rfl (pi_range1 (by rfl) L.z_range (pa_cons (pe_callB call_len_seq (by rfl) L.z_len PySem.boot_len (pa_cons (pv 0) pa_nil)) pa_nil)) (pg_name (i := 2) sc_law_same.nd rfl (.inl rfl))
        (pss_one (ps_if (PW.pt (pw_or (pt_cmpR op_ne (pe_callB call_isi (by rfl) L.z_isinstance (by decide +kernel) (pa_cons (pe_ix ix_list (pv 0) (pv 2) (fun _ _ => rfl)) (pa_cons (pe_bltn (v := .ty "bool") (by rfl) L.z_bool (by decide +kernel) rfl) pa_nil))) (pe_callB call_isi (by rfl) L.z_isinstance (by decide +kernel) (pa_cons (pe_ix ix_list (pv 1) (pv 2) (fun _ _ => rfl)) (pa_cons (pe_bltn (v := .ty "bool") (by rfl) L.z_bool (by decide +kernel) rfl) pa_nil))) (nomark _)) (pw_or1 (pt_not (pt_cmpR (op_eqM L (hr.mono (by omega))) (pe_ix ix_list (pv 0) (pv 2) (fun _ _ => rfl)) (pe_ix ix_list (pv 1) (pv 2) (fun _ _ => rfl)) (nomark _))))))
        (pss_one (ps_ret pe_bl))
        pss_nil)))
      (pss_one (ps_ret pe_bl)))), ?_⟩
    refine ⟨_, rfl, l1, us, rfl, .inl h1, _, rfl, l2, ws, rfl, .inl h2, rfl, _, rfl, ite_or (fun e => ?_) fun e => ?_⟩
    · have : ¬ ds = es := fun z => by
        rw [e3, e4, z] at e
        simp at e
      rw [decide_eq_false this] at q
      exact q
    have hl : ds.length = es.length := by
      have e := e
      rw [e3, e4] at e
      simp at e
      omega
    refine ⟨_, rfl, l1, us, rfl, .inl h1, _, rfl, by omega, by omega, for_range (n := us.length) (fun i σ H' => ∃ yk : Option V, σ = [some (.ref l1), some (.ref l2), yk] ∧ H' = H ∧ ∀ j, j < i → ds[j]? = es[j]?) ⟨none, rfl, rfl, fun j h => absurd h (by omega)⟩ ?_ ?_⟩
    · rintro i σ H' hi ⟨yk, rfl, rfl, hj⟩
      rw [Int.zero_add]
      obtain ⟨d, hd⟩ : ∃ d, ds[i]? = some d := ⟨_, List.getElem?_eq_getElem (by omega)⟩
      obtain ⟨e', he⟩ : ∃ d, es[i]? = some d := ⟨_, List.getElem?_eq_getElem (by omega)⟩
      obtain ⟨u, hu, hud⟩ := h3.at hd
      obtain ⟨z, hz, hzd⟩ := h4.at he
      refine ⟨_, rfl, _, rfl, l1, _, _, _, rfl, rfl, h1, atI_nat hu, _, .ty "bool", _, _, _, rfl, .ty _, has_ty L hud, kit_bool L d, _, rfl, _, rfl, l2, _, _, _, rfl, rfl, h2, atI_nat hz, _, .ty "bool", _, _, _, rfl, .ty _, has_ty L hzd, kit_bool L e', rfl, _, rfl, ite_or (fun c => ?_) fun c => ?_⟩
      · have : ¬ ds = es := fun x => by
          rw [x, he] at hd
          cases hd
          simp at c
        rw [decide_eq_false this] at q
        exact q
      have hb : dB d = dB e' := by simpa using c
      refine ⟨_, rfl, _, rfl, l1, _, _, _, rfl, rfl, h1, atI_nat hu, _, rfl, _, rfl, l2, _, _, _, rfl, rfl, h2, atI_nat hz, d, e', hud, hzd, hb, _, rfl, ?_⟩
      by_cases hde : d = e'
      · rw [decide_eq_true hde]
        refine iteF ⟨_, rfl, rfl, fun j hj' => ?_⟩
        by_cases hji : j < i
        · exact hj j hji
        · obtain rfl : j = i := by omega
          rw [hd, he, hde]
      · rw [decide_eq_false hde]
        have : ¬ ds = es := fun x => by
          rw [x, he] at hd
          cases hd
          exact hde rfl
        rw [decide_eq_false this] at q
        exact iteT q
    · rintro σ H' ⟨yk, rfl, rfl, hj⟩
      have : ds = es := by
        refine List.ext_getElem? fun j => ?_
        by_cases h : j < us.length
        · exact hj j h
        · rw [List.getElem?_eq_none (by omega), List.getElem?_eq_none (by omega)]
      rw [decide_eq_true this] at q
      exact q
def spKnd (K : PySem.W.Frag) (A : Ads) : Sp := fun vs H Q _ => ∃ (r : Addr) (us : List V) (ds : List Dv), vs = [.ref r] ∧ SqL K H r us ∧ Hs A H us ds ∧ ds.length ≤ 2000 ∧ ∀ H', Same H H' → Q (.str (kindL ds)) H'
theorem isI_eq2 (d : Dv) : isI d = (dI d && !dB d) := by cases d <;> rfl
theorem isS_eq2 (d : Dv) : isS d = dS d := by cases d <;> rfl
theorem take_filterB {f : Dv → Bool} {ds : List Dv} {i : Nat} {e : Dv} (h : ds[i]? = some e) : (ds.take (i + 1)).filter f = (ds.take i).filter f ++ (if f e = true then [e] else []) := by
  rw [List.take_add_one, h, List.filter_append]
  by_cases c : f e = true
  · simp [c]
  · simp [c]
theorem all_len {f : Dv → Bool} {ds : List Dv} : decide ((ds.filter f).length = ds.length) = ds.all f := by
  rw [Bool.eq_iff_iff, decide_eq_true_iff, List.all_eq_true]
  constructor
  · intro h
    have : ds.filter f = ds := List.Sublist.eq_of_length (List.filter_sublist) h
    intro x hx
    rw [← this] at hx
    exact (List.mem_filter.mp hx).2
  · intro h
    rw [List.filter_eq_self.mpr h]
theorem ok_law_kind (L : Lib P K mg A) : FnOk P w K mg base CX0 1 L.law_kind.f L.law_kind.fd ["parts"] (spKnd K A) := by
  refine L.law_kind.F.ok sc_law_kind (fun vs H Q E h => ?_) (fun cdv A' outer s H vs Q E hr h => ?_)
  · obtain ⟨r, us, ds, rfl, _⟩ := h
    rfl
  · obtain ⟨r, us, ds, rfl, hr1, hu, hz, q⟩ := h
    have hl := hu.len
    refine ⟨_, (pss_cons (ps_setLc (i := 1) (own := [("part", 3)]) (g := gName 3) (by rfl) sc_law_kind.nd rfl rfl (sw_true rfl rfl rfl (by decide +kernel)) (pi_list (pv 0)) (blkOk_by (own := [("part", 3)]) (N := ["parts", "integers", "texts", "part"]) (sc := defScope (top 129)) (by decide +kernel)) (fun _ _ _ _ _ => (pg_name (i := 3) sc_law_kind.nd rfl (.inl rfl))) (fun _ _ _ _ _ => pts_one (PW.pt (pw_and (pt_val (pe_callB (show CallR _ (.builtin "isinstance") (rIsi K) from call_isi) (by rfl) L.z_isinstance (by decide +kernel) (pa_cons (pv 3) (pa_cons (pe_bltn (v := .ty "int") (by rfl) L.z_int (by decide +kernel) rfl) pa_nil)))) (pw_and1 (pt_not (pt_val (pe_callB (show CallR _ (.builtin "isinstance") (rIsi K) from call_isi) (by rfl) L.z_isinstance (by decide +kernel) (pa_cons (pv 3) (pa_cons (pe_bltn (v := .ty "bool") (by rfl) L.z_bool (by decide +kernel) rfl) pa_nil))))))))) (fun _ _ _ _ _ => (pv 3)))
      (pss_cons (ps_setLc (i := 2) (own := [("part", 3)]) (g := gName 3) (by rfl) sc_law_kind.nd rfl rfl (sw_true rfl rfl rfl (by decide +kernel)) (pi_list (pv 0)) (blkOk_by (own := [("part", 3)]) (N := ["parts", "integers", "texts", "part"]) (sc := defScope (top 129)) (by decide +kernel)) (fun _ _ _ _ _ => (pg_name (i := 3) sc_law_kind.nd rfl (.inl rfl))) (fun _ _ _ _ _ => pts_one (pt_val (pe_callB (show CallR _ (.builtin "isinstance") (rIsi K) from call_isi) (by rfl) L.z_isinstance (by decide +kernel) (pa_cons (pv 3) (pa_cons (pe_bltn (v := .ty "str") (by rfl) L.z_str (by decide +kernel) rfl) pa_nil))))) (fun _ _ _ _ _ => (pv 3)))
      (pss_cons (ps_if (pt_cmpR op_eq (pe_callB call_len_seq (by rfl) L.z_len PySem.boot_len (pa_cons (pv 1) pa_nil)) (pe_callB call_len_seq (by rfl) L.z_len PySem.boot_len (pa_cons (pv 0) pa_nil)) (nomark _))
        (pss_one (ps_ret pe_str))
        pss_nil)
      (pss_cons (ps_if (pt_cmpR op_eq (pe_callB call_len_seq (by rfl) L.z_len PySem.boot_len (pa_cons (pv 2) pa_nil)) (pe_callB call_len_seq (by rfl) L.z_len PySem.boot_len (pa_cons (pv 0) pa_nil)) (nomark _))
        (pss_one (ps_ret pe_str))
        pss_nil)
      (pss_one (ps_ret pe_str)))))), ?_⟩
    have len_if : ∀ {f : Dv → Bool} (ws : List V) (H' : Hp) (D : Addr), ws.length = (ds.filter f).length → decide (V.int ((ws.length : Nat) : Int) = V.int ((us.length : Nat) : Int)) = ds.all f := fun {f} ws H' D e => by
      rw [← all_len, e, hl, decide_eq_decide]
      exact ⟨fun h => by injection h with h; omega, fun h => by rw [h]⟩
    refine ⟨_, rfl, r, rfl, ⟨_, hr1⟩, fun D nD => ?_⟩
    refine lc_list (K := K) (a := r) (xs := us) (fun i H' => Same H H' ∧ ∃ ws : List V, H' D = some (.lst ws) ∧ ws.length = ((ds.take i).filter isI).length) ⟨same_upd nD, [], upd_same, rfl⟩ (fun i H' _ h => h.1.seq hr1) ?_ ?_
    · rintro i vx H1 hvx ⟨s1, ws, e1, e2⟩
      obtain ⟨e, he, hxe⟩ := hu.atv hvx
      have hi : i < us.length := (List.getElem?_eq_some_iff.mp hvx).1
      have fl : ((ds.take i).filter isI).length ≤ i := Nat.le_trans (List.length_filter_le _ _) (by rw [List.length_take]; omega)
      have hx1 := hxe.sv (Same.sv s1)
      have step : ∀ b : Bool, b = isI e → (if b = true then Same H (upd H1 D (.lst (ws ++ [vx]))) ∧ ∃ ws' : List V, upd H1 D (.lst (ws ++ [vx])) D = some (.lst ws') ∧ ws'.length = ((ds.take (i + 1)).filter isI).length else Same H H1 ∧ ∃ ws' : List V, H1 D = some (.lst ws') ∧ ws'.length = ((ds.take (i + 1)).filter isI).length) := fun b hb => by
        subst hb
        rw [take_filterB he]
        by_cases c : isI e = true
        · rw [if_pos c, if_pos c]
          refine ⟨fun b o eb => ?_, _, upd_same, ?_⟩
          · rw [upd_ne (ne_of_none eb nD)]
            exact s1 _ _ eb
          · rw [List.length_append, List.length_append, e2]
            rfl
        · rw [if_neg c, if_neg c, List.append_nil]
          exact ⟨s1, ws, e1, e2⟩
      have fin : ∀ b : Bool, b = isI e → (if b = true then tVar 3 (List.set (wipe (L2.start ["parts", "integers", "texts", "part"] [V.ref r]) [3]) 3 (some vx)) H1 fun y H4 => ∃ acc, H4 D = some (.lst acc) ∧ acc.length < sizeLine ∧ (Same H (upd H4 D (.lst (acc ++ [y]))) ∧ ∃ ws' : List V, upd H4 D (.lst (acc ++ [y])) D = some (.lst ws') ∧ ws'.length = ((ds.take (i + 1)).filter isI).length) else Same H H1 ∧ ∃ ws' : List V, H1 D = some (.lst ws') ∧ ws'.length = ((ds.take (i + 1)).filter isI).length) := fun b hb => by
        have st := step b hb
        by_cases c : b = true
        · rw [if_pos c] at st ⊢
          exact ⟨_, rfl, ws, e1, Nat.lt_of_le_of_lt (m := 2000) (by omega) (by decide), st⟩
        · rw [if_neg c] at st ⊢
          exact st
      refine ⟨rfl, _, rfl, vx, .ty "int", _, _, _, rfl, .ty _, has_ty L hx1, kit_int L e, _, rfl, ?_⟩
      by_cases c : dI e = true
      · rw [c]
        refine iteT ⟨_, rfl, vx, .ty "bool", _, _, _, rfl, .ty _, has_ty L hx1, kit_bool L e, _, rfl, ?_⟩
        exact fin (!dB e) (by rw [isI_eq2, c]; rfl)
      · rw [eq_false_of_ne_true c]
        refine iteF ?_
        exact fin false (by rw [isI_eq2, eq_false_of_ne_true c]; rfl)
    · rintro H1 ⟨s1, ws1, e1, e2⟩
      rw [hl, List.take_length] at e2
      refine ⟨_, rfl, r, rfl, ⟨_, s1.seq hr1⟩, fun D2 nD2 => ?_⟩
      have s2 : Same H (upd H1 D2 (.lst [])) := s1.trans (same_upd nD2)
      have e12 := same_upd (o := .lst []) nD2 _ _ e1
      refine lc_list (K := K) (a := r) (xs := us) (fun i H' => Same H H' ∧ H' D = some (.lst ws1) ∧ ∃ ws : List V, H' D2 = some (.lst ws) ∧ ws.length = ((ds.take i).filter isS).length) ⟨s2, e12, [], upd_same, rfl⟩ (fun i H' _ h => h.1.seq hr1) ?_ ?_
      · rintro i vx H3 hvx ⟨s3, e13, ws, e3, e4⟩
        obtain ⟨e, he, hxe⟩ := hu.atv hvx
        have hi : i < us.length := (List.getElem?_eq_some_iff.mp hvx).1
        have fl : ((ds.take i).filter isS).length ≤ i := Nat.le_trans (List.length_filter_le _ _) (by rw [List.length_take]; omega)
        have hx1 := hxe.sv (Same.sv s3)
        have D2H : H D2 = none := s1.free nD2
        have ne : D ≠ D2 := fun z => by rw [z, nD2] at e1; cases e1
        refine ⟨rfl, _, rfl, vx, .ty "str", _, _, _, rfl, .ty _, has_ty L hx1, kit_str L e, _, rfl, ?_⟩
        rw [take_filterB he]
        by_cases c : dS e = true
        · rw [c]
          refine iteT ⟨_, rfl, ws, e3, Nat.lt_of_le_of_lt (m := 2000) (by omega) (by decide), fun b o eb => ?_, by rw [upd_ne ne]; exact e13, _, upd_same, ?_⟩
          · rw [upd_ne (ne_of_none eb D2H)]
            exact s3 _ _ eb
          · rw [if_pos (by rw [isS_eq2, c]), List.length_append, List.length_append, e4]
            rfl
        · rw [eq_false_of_ne_true c]
          refine iteF ⟨s3, e13, ws, e3, ?_⟩
          rw [if_neg (by rw [isS_eq2]; exact c), List.append_nil]
          exact e4
      · rintro H3 ⟨s3, e13, ws2, e3, e4⟩
        rw [hl, List.take_length] at e4
        have q := q H3 s3
        unfold kindL at q
        refine ⟨_, rfl, D, ws1, rfl, .inl (SqL.of e13), _, rfl, r, us, rfl, .inl (s3.seq hr1), rfl, _, rfl, ?_⟩
        rw [len_if ws1 H3 D e2]
        by_cases c1 : ds.all isI = true
        · rw [if_pos c1] at q
          rw [c1]
          exact iteT q
        rw [if_neg c1] at q
        rw [eq_false_of_ne_true c1]
        refine iteF ⟨_, rfl, D2, ws2, rfl, .inl (SqL.of e3), _, rfl, r, us, rfl, .inl (s3.seq hr1), rfl, _, rfl, ?_⟩
        rw [len_if ws2 H3 D e4]
        by_cases c2 : ds.all isS = true
        · rw [if_pos c2] at q
          rw [c2]
          exact iteT q
        · rw [if_neg c2] at q
          rw [eq_false_of_ne_true c2]
          exact iteF q
end
end My
namespace My
open PySem L2 SX XT XS XE XD XL XZ
open C8 (pss_cut tCut cutS_slice pe_gc)
section
variable {P : Program} {w : World} {K : PySem.W.Frag} {mg : Str → Option Value} {base : Heap} {A : Ads}
theorem cutV_take (xs : List V) {j : Nat} (h : j ≤ xs.length) : cutV xs none (some (j : Int)) = xs.take j := by
  unfold cutV
  have e1 : HT.sIx xs.length 0 none = 0 := rfl
  have e2 : HT.sIx xs.length xs.length (some (j : Int)) = j := by
    rw [HT.sIx_nat]; omega
  rw [e1, e2, List.drop_zero, Nat.sub_zero]
theorem cutV_drop (xs : List V) {j : Nat} (h : j ≤ xs.length) : cutV xs (some (j : Int)) none = xs.drop j := by
  unfold cutV
  have e1 : HT.sIx xs.length 0 (some (j : Int)) = j := by
    rw [HT.sIx_nat]; omega
  have e2 : HT.sIx xs.length xs.length none = xs.length := rfl
  rw [e1, e2, List.take_of_length_le (by rw [List.length_drop]; omega)]
def spOrd (K : PySem.W.Frag) (A : Ads) (f : Dv → Bool) : Sp := fun vs H Q _ => ∃ (r : Addr) (us : List V) (ds : List Dv), vs = [.ref r] ∧ SqL K H r us ∧ Hs A H us ds ∧ (∀ d ∈ ds, f d = true) ∧ ds.length ≤ 1000 ∧ ∀ H' D us' es, Same H H' → H D = none → H' D = some (.lst us') → Hs A H' us' es → Srtd ds es → Q (.ref D) H'
theorem ok_law_orderedI (L : Lib P K mg A) : FnOk P w K mg base CX0 1 L.law_ordered.f L.law_ordered.fd ["parts"] (spOrd K A isI) := by
  refine L.law_ordered.F.ok sc_law_ordered (fun vs H Q E h => ?_) (fun cdv A' outer s H vs Q E hr h => ?_)
  · obtain ⟨r, us, ds, rfl, _⟩ := h
    rfl
  · obtain ⟨r, us, ds, rfl, hr1, hu, ok, hz, q⟩ := h
    have hl := hu.len
    have one : oneK ds := .inl ok
    refine ⟨_, (pss_cons (ps_set (i := 1) sc_law_ordered.nd rfl (.inl rfl) (pe_lst pa_nil))
      (pss_cons (ps_for PassesOwn.never rfl (pi_list (pv 0)) (pg_name (i := 2) sc_law_ordered.nd rfl (.inl rfl))
        (pss_cons (ps_set (i := 3) sc_law_ordered.nd rfl (.inl rfl) (pe_callB call_len_seq (by rfl) L.z_len PySem.boot_len (pa_cons (pv 1) pa_nil)))
      (pss_cons (ps_while PassesOwn.never (PW.pt (pw_and (pt_cmpR op_gt (pv 3) pe_int (nomark _)) (pw_and1 (pt_cmpR op_lt (pv 2) (pe_ix ix_list (pv 1) (pe_op op_sub (pv 3) pe_int) (fun _ _ => rfl)) (nomark _)))))
        (pss_one (ps_set (i := 3) sc_law_ordered.nd rfl (.inl rfl) (pe_op op_sub (pv 3) pe_int))))
      (pss_one (ps_set (i := 1) sc_law_ordered.nd rfl (.inl rfl) (pe_op op_cat (pe_op op_cat (pe_slice sl_list (pv 1) po_none (po_some (pv 3))) (pe_lst (pa_cons (pv 2) pa_nil))) (pe_slice sl_list (pv 1) (po_some (pv 3)) po_none)))))))
      (pss_one (ps_ret (pv 1))))), ?_⟩
    refine ⟨(by decide), fun D nD => ?_⟩
    refine ⟨_, rfl, r, rfl, ⟨_, (same_upd nD).seq hr1⟩, for_list (K := K) (a := r) (xs := us) (fun i σ H' => ∃ (Dq : Addr) (ws : List V) (es : List Dv) (y2 y3 : Option V), σ = [some (.ref r), some (.ref Dq), y2, y3] ∧ Same H H' ∧ H Dq = none ∧ H' Dq = some (.lst ws) ∧ Hs A H' ws es ∧ Srtd (ds.take i) es) ⟨D, [], [], none, none, rfl, same_upd nD, nD, upd_same, trivial, List.Perm.nil, List.Pairwise.nil⟩ (fun i σ H' _ h => by obtain ⟨_, _, _, _, _, _, s, _⟩ := h; exact s.seq hr1) ?_ ?_⟩
    · rintro i vx σ H1 hvx ⟨Dq, ws, es, y2, y3, rfl, s1, nDq, e1, he, hs⟩
      obtain ⟨d, hdi, hxd⟩ := hu.atv hvx
      have len : i < ds.length := (List.getElem?_eq_some_iff.mp hdi).1
      have tk : ds.take (i + 1) = ds.take i ++ [d] := by rw [List.take_add_one, hdi]; rfl
      have hwl := he.len
      have esl : es.length = i := by rw [hs.1.length_eq, List.length_take]; omega
      have onek : oneK (ds.take i ++ [d]) := by rw [← tk]; exact one.mono fun d hd => List.mem_of_mem_take hd
      have okd := ok d (List.mem_of_getElem? hdi)
      obtain ⟨z, rfl⟩ := isI_eq okd
      cases hxd
      have oke : ∀ y ∈ es, isI y = true := fun y hy => ok y (List.mem_of_mem_take (hs.1.subset hy))
      refine ⟨_, rfl, Dq, ws, rfl, .inl (SqL.of e1), ?_⟩
      refine ⟨fun m σ' H' => ∃ n : Nat, m = n ∧ σ' = [some (.ref r), some (.ref Dq), some (.int z), some (.int (n : Nat))] ∧ H' = H1 ∧ n ≤ es.length ∧ ∀ y ∈ es.drop n, ltD (.int z) y = true, ⟨ws.length, ws.length, rfl, rfl, rfl, by omega, by rw [List.drop_eq_nil_of_le (by omega)]; nofun⟩, ?_⟩
      have fin : ∀ (n : Nat) (H2 : Hp), n ≤ es.length → (∀ y ∈ es.drop n, ltD (.int z) y = true) → (n = 0 ∨ ∃ y, es[n - 1]? = some y ∧ ltD (.int z) y = false) → Srtd (ds.take (i + 1)) (es.take n ++ [.int z] ++ es.drop n) := fun n H2 h1 h2 h3 => by
        rw [tk]
        exact hs.ins onek h2 h3
      rintro n σ H2 ⟨_, rfl, rfl, rfl, hn, hd⟩
      refine ⟨_, rfl, _, _, rfl, rfl, _, rfl, ite2 (fun h0 => ?_) fun h0 => ?_⟩
      · have h0 : (0 : Int) < (n : Nat) := of_decide_eq_true h0
        have hn1 : n - 1 < es.length := by omega
        obtain ⟨y, hy⟩ : ∃ y, es[n - 1]? = some y := ⟨_, List.getElem?_eq_getElem hn1⟩
        obtain ⟨v, hv, hvd⟩ := he.at hy
        obtain ⟨zy, rfl⟩ := isI_eq (oke y (List.mem_of_getElem? hy))
        cases hvd
        have en : ((n : Nat) : Int) - 1 = ((n - 1 : Nat) : Int) := by omega
        refine ⟨_, rfl, _, rfl, _, rfl, _, _, rfl, rfl, Dq, _, _, .int zy, rfl, rfl, SqL.of e1, (by rw [en]; exact atI_nat hv), z, zy, rfl, rfl, _, rfl, ?_⟩
        refine ite_or (fun hc => ?_) fun hc => ?_
        · refine ⟨fun σ' H' => σ' = [some (.ref r), some (.ref Dq), some (.int z), some (.int ((n - 1 : Nat) : Int))] ∧ H' = H2, ?_, ?_⟩
          · rintro σ' H' ⟨rfl, rfl⟩
            refine ⟨n - 1, by omega, n - 1, rfl, rfl, rfl, by omega, fun y hy' => ?_⟩
            have e : es.drop (n - 1) = .int zy :: es.drop n := by
              rw [List.drop_eq_getElem_cons hn1, show n - 1 + 1 = n by omega]
              have := (List.getElem?_eq_some_iff.mp hy).2
              rw [this]
            rw [e] at hy'
            rcases List.mem_cons.mp hy' with rfl | h
            · exact hc
            · exact hd y h
          · refine ⟨_, rfl, _, _, rfl, rfl, ?_⟩
            dsimp only
            rw [en]
            exact ⟨rfl, rfl⟩
        · have h3 : n = 0 ∨ ∃ y, es[n - 1]? = some y ∧ ltD (.int z) y = false := .inr ⟨_, hy, hc⟩
          refine ⟨_, rfl, _, rfl, ((n : Nat) : Int), rfl, Dq, ws, rfl, SqL.of e1, fun Da na => ?_⟩
          rw [cutV_take ws (by omega)]
          have sa := same_upd (o := .lst (ws.take n)) na
          have ea : upd H2 Da (.lst (ws.take n)) Da = some (.lst (ws.take n)) := upd_same
          generalize upd H2 Da _ = Ha at sa ea ⊢
          refine ⟨_, rfl, (by show 1 ≤ sizeLine; decide), fun Db nb => ?_⟩
          have sb := sa.trans (same_upd (o := .lst [.int z]) nb)
          have eb : upd Ha Db (.lst [.int z]) Db = some (.lst [.int z]) := upd_same
          have eab := same_upd (o := .lst [.int z]) nb _ _ ea
          generalize upd Ha Db _ = Hb at sb eb eab ⊢
          refine ⟨Da, Db, ws.take n, [.int z], rfl, rfl, eab, eb, Nat.le_trans (m := 2000) (by rw [List.length_take]; simp; omega) (by decide), fun Dc nc => ?_⟩
          have sc := sb.trans (same_upd (o := .lst (ws.take n ++ [.int z])) nc)
          have ec : upd Hb Dc (.lst (ws.take n ++ [.int z])) Dc = some (.lst (ws.take n ++ [.int z])) := upd_same
          generalize upd Hb Dc _ = Hc at sc ec ⊢
          refine ⟨_, rfl, _, rfl, ((n : Nat) : Int), rfl, Dq, ws, rfl, sc.seq (SqL.of e1), fun Dd ndd => ?_⟩
          rw [cutV_drop ws (by omega)]
          have sd := sc.trans (same_upd (o := .lst (ws.drop n)) ndd)
          have ed : upd Hc Dd (.lst (ws.drop n)) Dd = some (.lst (ws.drop n)) := upd_same
          have ecd := same_upd (o := .lst (ws.drop n)) ndd _ _ ec
          generalize upd Hc Dd _ = Hd at sd ed ecd ⊢
          refine ⟨Dc, Dd, ws.take n ++ [.int z], ws.drop n, rfl, rfl, ecd, ed, Nat.le_trans (m := 2000) (by rw [List.length_append, List.length_take, List.length_drop]; simp; omega) (by decide), fun De nde => ?_⟩
          have se := sd.trans (same_upd (o := .lst (ws.take n ++ [.int z] ++ ws.drop n)) nde)
          have he2 : Hs A (upd Hd De (.lst (ws.take n ++ [.int z] ++ ws.drop n))) (ws.take n ++ [.int z] ++ ws.drop n) (es.take n ++ [.int z] ++ es.drop n) :=
            (((he.take n).app (us := [.int z]) (es := [.int z]) ⟨rfl, trivial⟩).app (he.drop n)).imp fun _ _ h => h.sv (Same.sv se)
          exact ⟨De, _, _, _, _, rfl, s1.trans se, (s1.trans sd).free nde, upd_same, he2, fin n H2 hn hd h3⟩
      · have h3 : n = 0 ∨ ∃ y, es[n - 1]? = some y ∧ ltD (.int z) y = false := .inl (by have := nd h0; omega)
        refine ⟨_, rfl, _, rfl, ((n : Nat) : Int), rfl, Dq, ws, rfl, SqL.of e1, fun Da na => ?_⟩
        rw [cutV_take ws (by omega)]
        have sa := same_upd (o := .lst (ws.take n)) na
        have ea : upd H2 Da (.lst (ws.take n)) Da = some (.lst (ws.take n)) := upd_same
        generalize upd H2 Da _ = Ha at sa ea ⊢
        refine ⟨_, rfl, (by show 1 ≤ sizeLine; decide), fun Db nb => ?_⟩
        have sb := sa.trans (same_upd (o := .lst [.int z]) nb)
        have eb : upd Ha Db (.lst [.int z]) Db = some (.lst [.int z]) := upd_same
        have eab := same_upd (o := .lst [.int z]) nb _ _ ea
        generalize upd Ha Db _ = Hb at sb eb eab ⊢
        refine ⟨Da, Db, ws.take n, [.int z], rfl, rfl, eab, eb, Nat.le_trans (m := 2000) (by rw [List.length_take]; simp; omega) (by decide), fun Dc nc => ?_⟩
        have sc := sb.trans (same_upd (o := .lst (ws.take n ++ [.int z])) nc)
        have ec : upd Hb Dc (.lst (ws.take n ++ [.int z])) Dc = some (.lst (ws.take n ++ [.int z])) := upd_same
        generalize upd Hb Dc _ = Hc at sc ec ⊢
        refine ⟨_, rfl, _, rfl, ((n : Nat) : Int), rfl, Dq, ws, rfl, sc.seq (SqL.of e1), fun Dd ndd => ?_⟩
        rw [cutV_drop ws (by omega)]
        have sd := sc.trans (same_upd (o := .lst (ws.drop n)) ndd)
        have ed : upd Hc Dd (.lst (ws.drop n)) Dd = some (.lst (ws.drop n)) := upd_same
        have ecd := same_upd (o := .lst (ws.drop n)) ndd _ _ ec
        generalize upd Hc Dd _ = Hd at sd ed ecd ⊢
        refine ⟨Dc, Dd, ws.take n ++ [.int z], ws.drop n, rfl, rfl, ecd, ed, Nat.le_trans (m := 2000) (by rw [List.length_append, List.length_take, List.length_drop]; simp; omega) (by decide), fun De nde => ?_⟩
        have se := sd.trans (same_upd (o := .lst (ws.take n ++ [.int z] ++ ws.drop n)) nde)
        have he2 : Hs A (upd Hd De (.lst (ws.take n ++ [.int z] ++ ws.drop n))) (ws.take n ++ [.int z] ++ ws.drop n) (es.take n ++ [.int z] ++ es.drop n) :=
          (((he.take n).app (us := [.int z]) (es := [.int z]) ⟨rfl, trivial⟩).app (he.drop n)).imp fun _ _ h => h.sv (Same.sv se)
        exact ⟨De, _, _, _, _, rfl, s1.trans se, (s1.trans sd).free nde, upd_same, he2, fin n H2 hn hd h3⟩
    · rintro σ H1 ⟨Dq, ws, es, y2, y3, rfl, s1, nDq, e1, he, hs⟩
      rw [hl, List.take_length] at hs
      exact ⟨_, rfl, q H1 Dq ws es s1 nDq e1 he hs⟩
theorem ok_law_orderedS (L : Lib P K mg A) : FnOk P w K mg base CX0 1 L.law_ordered.f L.law_ordered.fd ["parts"] (spOrd K A isS) := by
  refine L.law_ordered.F.ok sc_law_ordered (fun vs H Q E h => ?_) (fun cdv A' outer s H vs Q E hr h => ?_)
  · obtain ⟨r, us, ds, rfl, _⟩ := h
    rfl
  · obtain ⟨r, us, ds, rfl, hr1, hu, ok, hz, q⟩ := h
    have hl := hu.len
    have one : oneK ds := .inr ok
    refine ⟨_, (pss_cons (ps_set (i := 1) sc_law_ordered.nd rfl (.inl rfl) (pe_lst pa_nil))
      (pss_cons (ps_for PassesOwn.never rfl (pi_list (pv 0)) (pg_name (i := 2) sc_law_ordered.nd rfl (.inl rfl))
        (pss_cons (ps_set (i := 3) sc_law_ordered.nd rfl (.inl rfl) (pe_callB call_len_seq (by rfl) L.z_len PySem.boot_len (pa_cons (pv 1) pa_nil)))
      (pss_cons (ps_while PassesOwn.never (PW.pt (pw_and (pt_cmpR op_gt (pv 3) pe_int (nomark _)) (pw_and1 (pt_cmpR op_lt_str (pv 2) (pe_ix ix_list (pv 1) (pe_op op_sub (pv 3) pe_int) (fun _ _ => rfl)) (nomark _)))))
        (pss_one (ps_set (i := 3) sc_law_ordered.nd rfl (.inl rfl) (pe_op op_sub (pv 3) pe_int))))
      (pss_one (ps_set (i := 1) sc_law_ordered.nd rfl (.inl rfl) (pe_op op_cat (pe_op op_cat (pe_slice sl_list (pv 1) po_none (po_some (pv 3))) (pe_lst (pa_cons (pv 2) pa_nil))) (pe_slice sl_list (pv 1) (po_some (pv 3)) po_none)))))))
      (pss_one (ps_ret (pv 1))))), ?_⟩
    refine ⟨(by decide), fun D nD => ?_⟩
    refine ⟨_, rfl, r, rfl, ⟨_, (same_upd nD).seq hr1⟩, for_list (K := K) (a := r) (xs := us) (fun i σ H' => ∃ (Dq : Addr) (ws : List V) (es : List Dv) (y2 y3 : Option V), σ = [some (.ref r), some (.ref Dq), y2, y3] ∧ Same H H' ∧ H Dq = none ∧ H' Dq = some (.lst ws) ∧ Hs A H' ws es ∧ Srtd (ds.take i) es) ⟨D, [], [], none, none, rfl, same_upd nD, nD, upd_same, trivial, List.Perm.nil, List.Pairwise.nil⟩ (fun i σ H' _ h => by obtain ⟨_, _, _, _, _, _, s, _⟩ := h; exact s.seq hr1) ?_ ?_⟩
    · rintro i vx σ H1 hvx ⟨Dq, ws, es, y2, y3, rfl, s1, nDq, e1, he, hs⟩
      obtain ⟨d, hdi, hxd⟩ := hu.atv hvx
      have len : i < ds.length := (List.getElem?_eq_some_iff.mp hdi).1
      have tk : ds.take (i + 1) = ds.take i ++ [d] := by rw [List.take_add_one, hdi]; rfl
      have hwl := he.len
      have esl : es.length = i := by rw [hs.1.length_eq, List.length_take]; omega
      have onek : oneK (ds.take i ++ [d]) := by rw [← tk]; exact one.mono fun d hd => List.mem_of_mem_take hd
      have okd := ok d (List.mem_of_getElem? hdi)
      obtain ⟨z, rfl⟩ := isS_eq okd
      cases hxd
      have oke : ∀ y ∈ es, isS y = true := fun y hy => ok y (List.mem_of_mem_take (hs.1.subset hy))
      refine ⟨_, rfl, Dq, ws, rfl, .inl (SqL.of e1), ?_⟩
      refine ⟨fun m σ' H' => ∃ n : Nat, m = n ∧ σ' = [some (.ref r), some (.ref Dq), some (.str z), some (.int (n : Nat))] ∧ H' = H1 ∧ n ≤ es.length ∧ ∀ y ∈ es.drop n, ltD (.str z) y = true, ⟨ws.length, ws.length, rfl, rfl, rfl, by omega, by rw [List.drop_eq_nil_of_le (by omega)]; nofun⟩, ?_⟩
      have fin : ∀ (n : Nat) (H2 : Hp), n ≤ es.length → (∀ y ∈ es.drop n, ltD (.str z) y = true) → (n = 0 ∨ ∃ y, es[n - 1]? = some y ∧ ltD (.str z) y = false) → Srtd (ds.take (i + 1)) (es.take n ++ [.str z] ++ es.drop n) := fun n H2 h1 h2 h3 => by
        rw [tk]
        exact hs.ins onek h2 h3
      rintro n σ H2 ⟨_, rfl, rfl, rfl, hn, hd⟩
      refine ⟨_, rfl, _, _, rfl, rfl, _, rfl, ite2 (fun h0 => ?_) fun h0 => ?_⟩
      · have h0 : (0 : Int) < (n : Nat) := of_decide_eq_true h0
        have hn1 : n - 1 < es.length := by omega
        obtain ⟨y, hy⟩ : ∃ y, es[n - 1]? = some y := ⟨_, List.getElem?_eq_getElem hn1⟩
        obtain ⟨v, hv, hvd⟩ := he.at hy
        obtain ⟨zy, rfl⟩ := isS_eq (oke y (List.mem_of_getElem? hy))
        cases hvd
        have en : ((n : Nat) : Int) - 1 = ((n - 1 : Nat) : Int) := by omega
        refine ⟨_, rfl, _, rfl, _, rfl, _, _, rfl, rfl, Dq, _, _, .str zy, rfl, rfl, SqL.of e1, (by rw [en]; exact atI_nat hv), z, zy, rfl, rfl, _, rfl, ?_⟩
        refine ite_or (fun hc => ?_) fun hc => ?_
        · refine ⟨fun σ' H' => σ' = [some (.ref r), some (.ref Dq), some (.str z), some (.int ((n - 1 : Nat) : Int))] ∧ H' = H2, ?_, ?_⟩
          · rintro σ' H' ⟨rfl, rfl⟩
            refine ⟨n - 1, by omega, n - 1, rfl, rfl, rfl, by omega, fun y hy' => ?_⟩
            have e : es.drop (n - 1) = .str zy :: es.drop n := by
              rw [List.drop_eq_getElem_cons hn1, show n - 1 + 1 = n by omega]
              have := (List.getElem?_eq_some_iff.mp hy).2
              rw [this]
            rw [e] at hy'
            rcases List.mem_cons.mp hy' with rfl | h
            · exact hc
            · exact hd y h
          · refine ⟨_, rfl, _, _, rfl, rfl, ?_⟩
            dsimp only
            rw [en]
            exact ⟨rfl, rfl⟩
        · have h3 : n = 0 ∨ ∃ y, es[n - 1]? = some y ∧ ltD (.str z) y = false := .inr ⟨_, hy, hc⟩
          refine ⟨_, rfl, _, rfl, ((n : Nat) : Int), rfl, Dq, ws, rfl, SqL.of e1, fun Da na => ?_⟩
          rw [cutV_take ws (by omega)]
          have sa := same_upd (o := .lst (ws.take n)) na
          have ea : upd H2 Da (.lst (ws.take n)) Da = some (.lst (ws.take n)) := upd_same
          generalize upd H2 Da _ = Ha at sa ea ⊢
          refine ⟨_, rfl, (by show 1 ≤ sizeLine; decide), fun Db nb => ?_⟩
          have sb := sa.trans (same_upd (o := .lst [.str z]) nb)
          have eb : upd Ha Db (.lst [.str z]) Db = some (.lst [.str z]) := upd_same
          have eab := same_upd (o := .lst [.str z]) nb _ _ ea
          generalize upd Ha Db _ = Hb at sb eb eab ⊢
          refine ⟨Da, Db, ws.take n, [.str z], rfl, rfl, eab, eb, Nat.le_trans (m := 2000) (by rw [List.length_take]; simp; omega) (by decide), fun Dc nc => ?_⟩
          have sc := sb.trans (same_upd (o := .lst (ws.take n ++ [.str z])) nc)
          have ec : upd Hb Dc (.lst (ws.take n ++ [.str z])) Dc = some (.lst (ws.take n ++ [.str z])) := upd_same
          generalize upd Hb Dc _ = Hc at sc ec ⊢
          refine ⟨_, rfl, _, rfl, ((n : Nat) : Int), rfl, Dq, ws, rfl, sc.seq (SqL.of e1), fun Dd ndd => ?_⟩
          rw [cutV_drop ws (by omega)]
          have sd := sc.trans (same_upd (o := .lst (ws.drop n)) ndd)
          have ed : upd Hc Dd (.lst (ws.drop n)) Dd = some (.lst (ws.drop n)) := upd_same
          have ecd := same_upd (o := .lst (ws.drop n)) ndd _ _ ec
          generalize upd Hc Dd _ = Hd at sd ed ecd ⊢
          refine ⟨Dc, Dd, ws.take n ++ [.str z], ws.drop n, rfl, rfl, ecd, ed, Nat.le_trans (m := 2000) (by rw [List.length_append, List.length_take, List.length_drop]; simp; omega) (by decide), fun De nde => ?_⟩
          have se := sd.trans (same_upd (o := .lst (ws.take n ++ [.str z] ++ ws.drop n)) nde)
          have he2 : Hs A (upd Hd De (.lst (ws.take n ++ [.str z] ++ ws.drop n))) (ws.take n ++ [.str z] ++ ws.drop n) (es.take n ++ [.str z] ++ es.drop n) :=
            (((he.take n).app (us := [.str z]) (es := [.str z]) ⟨rfl, trivial⟩).app (he.drop n)).imp fun _ _ h => h.sv (Same.sv se)
          exact ⟨De, _, _, _, _, rfl, s1.trans se, (s1.trans sd).free nde, upd_same, he2, fin n H2 hn hd h3⟩
      · have h3 : n = 0 ∨ ∃ y, es[n - 1]? = some y ∧ ltD (.str z) y = false := .inl (by have := nd h0; omega)
        refine ⟨_, rfl, _, rfl, ((n : Nat) : Int), rfl, Dq, ws, rfl, SqL.of e1, fun Da na => ?_⟩
        rw [cutV_take ws (by omega)]
        have sa := same_upd (o := .lst (ws.take n)) na
        have ea : upd H2 Da (.lst (ws.take n)) Da = some (.lst (ws.take n)) := upd_same
        generalize upd H2 Da _ = Ha at sa ea ⊢
        refine ⟨_, rfl, (by show 1 ≤ sizeLine; decide), fun Db nb => ?_⟩
        have sb := sa.trans (same_upd (o := .lst [.str z]) nb)
        have eb : upd Ha Db (.lst [.str z]) Db = some (.lst [.str z]) := upd_same
        have eab := same_upd (o := .lst [.str z]) nb _ _ ea
        generalize upd Ha Db _ = Hb at sb eb eab ⊢
        refine ⟨Da, Db, ws.take n, [.str z], rfl, rfl, eab, eb, Nat.le_trans (m := 2000) (by rw [List.length_take]; simp; omega) (by decide), fun Dc nc => ?_⟩
        have sc := sb.trans (same_upd (o := .lst (ws.take n ++ [.str z])) nc)
        have ec : upd Hb Dc (.lst (ws.take n ++ [.str z])) Dc = some (.lst (ws.take n ++ [.str z])) := upd_same
        generalize upd Hb Dc _ = Hc at sc ec ⊢
        refine ⟨_, rfl, _, rfl, ((n : Nat) : Int), rfl, Dq, ws, rfl, sc.seq (SqL.of e1), fun Dd ndd => ?_⟩
        rw [cutV_drop ws (by omega)]
        have sd := sc.trans (same_upd (o := .lst (ws.drop n)) ndd)
        have ed : upd Hc Dd (.lst (ws.drop n)) Dd = some (.lst (ws.drop n)) := upd_same
        have ecd := same_upd (o := .lst (ws.drop n)) ndd _ _ ec
        generalize upd Hc Dd _ = Hd at sd ed ecd ⊢
        refine ⟨Dc, Dd, ws.take n ++ [.str z], ws.drop n, rfl, rfl, ecd, ed, Nat.le_trans (m := 2000) (by rw [List.length_append, List.length_take, List.length_drop]; simp; omega) (by decide), fun De nde => ?_⟩
        have se := sd.trans (same_upd (o := .lst (ws.take n ++ [.str z] ++ ws.drop n)) nde)
        have he2 : Hs A (upd Hd De (.lst (ws.take n ++ [.str z] ++ ws.drop n))) (ws.take n ++ [.str z] ++ ws.drop n) (es.take n ++ [.str z] ++ es.drop n) :=
          (((he.take n).app (us := [.str z]) (es := [.str z]) ⟨rfl, trivial⟩).app (he.drop n)).imp fun _ _ h => h.sv (Same.sv se)
        exact ⟨De, _, _, _, _, rfl, s1.trans se, (s1.trans sd).free nde, upd_same, he2, fin n H2 hn hd h3⟩
    · rintro σ H1 ⟨Dq, ws, es, y2, y3, rfl, s1, nDq, e1, he, hs⟩
      rw [hl, List.take_length] at hs
      exact ⟨_, rfl, q H1 Dq ws es s1 nDq e1 he hs⟩
end
end My
namespace My
open PySem L2 SX XT XS XE XD XL XZ
open C8 (pss_cut tCut cutS_slice pe_gc)
theorem jp_nil {S : St} {m : Nat} {z : Str} {ds : List Dv} {k : Nat} (hk : k ≤ ds.length) : jp S m z (ds.take k) [] = [] ↔ k = 0 := by
  constructor
  · intro h
    cases k with
    | zero => rfl
    | succ k =>
      have hk1 : k < ds.length := by omega
      have tk : ds.take (k + 1) = ds.take k ++ [ds[k]] := by rw [List.take_add_one, List.getElem?_eq_getElem hk1]; rfl
      rw [tk, jp_snoc] at h
      unfold jstep at h
      simp at h
  · intro h
    rw [h]
    rfl
theorem txt_small2 {S : St} (hw : WfS S) {d : Dv} (ok : okW S d) : (txtD S 2000 d).length ≤ 2001 := by
  cases d with
  | str x => exact Nat.le_trans ok (by decide)
  | _ => show (valS S 2000 _).length ≤ 2001; unfold valS; rw [headS_len2]; omega
section
variable {P : Program} {w : World} {K : PySem.W.Frag} {mg : Str → Option Value} {base : Heap} {A : Ads}
def spLJd (P : Program) (w : World) (K : PySem.W.Frag) (A : Ads) : Sp := fun vs H Q _ => ∃ (a : Sa) (S : St) (r : Addr) (us : List V) (ds : List Dv) (z : Str), vs = [.ref a.s, .ref r, .str z] ∧ SM P w A H a S ∧ SqL K H r us ∧ Hs A H us ds ∧ ds.length ≤ 1000 ∧ WfS S ∧ (∀ d ∈ ds, okW S d) ∧ z.length ≤ 100 ∧
  ∀ H', Same H H' → Q (.str (cat (jp S 2000 z ds []))) H'
theorem ok_law_joined (L : Lib P K mg A) : FnOk P w K mg base CX0 39 L.law_joined.f L.law_joined.fd ["store", "parts", "between"] (spLJd P w K A) := by
  have G_text_of : FnOk P w K mg base CX0 38 L.text_of.f L.text_of.fd ["store", "value", "most"] (spTO P w A) := ok_text_of L
  refine L.law_joined.F.ok sc_law_joined (fun vs H Q E h => ?_) (fun cdv A' outer s H vs Q E hr h => ?_)
  · obtain ⟨a, S, r, us, ds, z, rfl, _⟩ := h
    rfl
  · obtain ⟨a, S, r, us, ds, z, rfl, hS, hr1, hu, hz, hw, ho, zl, q⟩ := h
    have hl := hu.len
    refine ⟨_, (pss_cons (ps_set (i := 3) sc_law_joined.nd rfl (.inl rfl) pe_str)
      (pss_cons (ps_for PassesOwn.never rfl (pi_range1 (by rfl) L.z_range (pa_cons (pe_callB call_len_seq (by rfl) L.z_len PySem.boot_len (pa_cons (pv 1) pa_nil)) pa_nil)) (pg_name (i := 4) sc_law_joined.nd rfl (.inl rfl))
        (pss_cut (ps_if (pt_cmpR op_gt (pv 4) pe_int (nomark _))
        (pss_one (ps_set (i := 3) sc_law_joined.nd rfl (.inl rfl) (pe_op op_add_str (pv 3) (pv 2))))
        pss_nil)
      (pss_one (ps_set (i := 3) sc_law_joined.nd rfl (.inl rfl) (pe_op op_add_str (pv 3) (pe_call G_text_of (hr.mono (by omega)) (by rfl) L.text_of.g L.text_of.F.kp L.text_of.b .nil pass0 (pa_cons (pv 0) (pa_cons (pe_ix ix_list (pv 1) (pv 4) (fun _ _ => rfl)) (pa_cons pe_int pa_nil)))))))))
      (pss_one (ps_ret (pv 3))))), ?_⟩
    refine ⟨_, rfl, r, us, rfl, .inl hr1, _, rfl, by omega, by omega, for_range (n := us.length) (fun i σ H' => ∃ y4 : Option V, σ = [some (.ref a.s), some (.ref r), some (.str z), some (.str (cat (jp S 2000 z (ds.take i) []))), y4] ∧ Same H H' ∧ szP (jp S 2000 z (ds.take i) []) ≤ 2101 * i) ⟨none, by rw [List.take_zero]; show _ = [_, _, _, some (V.str (cat [])), _]; rw [cat_nil]; rfl, Same.rf, Nat.zero_le _⟩ ?_ ?_⟩
    · rintro i σ H1 hi ⟨y4, rfl, s1, z1⟩
      rw [Int.zero_add]
      obtain ⟨d, hd⟩ : ∃ d, ds[i]? = some d := ⟨_, List.getElem?_eq_getElem (by omega)⟩
      obtain ⟨v, hv, hvd⟩ := hu.at hd
      have od := ho d (List.mem_of_getElem? hd)
      have tk : ds.take (i + 1) = ds.take i ++ [d] := by rw [List.take_add_one, hd]; rfl
      have nil := jp_nil (S := S) (m := 2000) (z := z) (ds := ds) (k := i) (by omega)
      have st : jp S 2000 z (ds.take (i + 1)) [] = jstep S 2000 z (jp S 2000 z (ds.take i) []) d := by rw [tk, jp_snoc]
      rw [st]
      generalize jp S 2000 z (ds.take i) [] = ps at z1 nil ⊢
      have tl := txt_small2 hw od
      refine ⟨fun σ' H' => ∃ qs, qs = (if ps = [] then ps else ps ++ [z]) ∧ σ' = [some (.ref a.s), some (.ref r), some (.str z), some (.str (cat qs)), some (.int (i : Nat))] ∧ H' = H1, ?_, ?_⟩
      · refine ⟨_, rfl, _, _, rfl, rfl, _, rfl, ite2 (fun h0 => ?_) fun h0 => ?_⟩
        · have h0 : (0 : Int) < (i : Nat) := of_decide_eq_true h0
          have ne : ps ≠ [] := fun e => by have := nil.mp e; omega
          refine ⟨_, rfl, _, rfl, _, _, rfl, rfl, ?_, ps ++ [z], (if_neg ne).symm, ?_, rfl⟩
          · rw [cat_len]
            exact Nat.le_trans (m := 3000000) (by omega) (by decide)
          · rw [cat_snoc]
            rfl
        · have h0 : ¬ (0 : Int) < (i : Nat) := nd h0
          have e : ps = [] := nil.mpr (by omega)
          exact ⟨ps, (if_pos e).symm, rfl, rfl⟩
      rintro σ H2 ⟨qs, hq, rfl, rfl⟩
      have qz : szP qs ≤ szP ps + 100 := by
        rw [hq]
        split
        · omega
        · rw [szP_snoc]; omega
      have qt : jstep S 2000 z ps d = qs ++ [txtD S 2000 d] := by
        unfold jstep
        rw [← hq]
      refine ⟨_, rfl, _, rfl, _, rfl, _, rfl, r, us, _, v, rfl, rfl, s1.seq hr1, atI_nat hv, a, S, 2000, v, d, rfl, hS.same s1, hvd.sv (Same.sv s1), hw, pls hw 2000, od, by decide, fun H3 s3 => ?_⟩
      refine ⟨_, _, rfl, rfl, ?_, ?_⟩
      · rw [cat_len]
        show szP qs + (txtD S 2000 d).length ≤ sizeLine
        exact Nat.le_trans (m := 3000000) (by omega) (by decide)
      · refine ⟨some (.int (i : Nat)), ?_, s1.trans s3, ?_⟩
        · rw [qt, cat_snoc]
          rfl
        · rw [qt, szP_snoc]
          omega
    · rintro σ H1 ⟨y4, rfl, s1, z1⟩
      have q := q H1 s1
      rw [hl, List.take_length]
      exact ⟨_, rfl, q⟩
/-- a list of the law beside the store -/
structure Lw (P : Program) (w : World) (A : Ads) (H : Hp) (a : Sa) (r : Addr) (us : List V) (ds : List Dv) : Prop where
  r_ : H r = some (.lst us)
  h_ : Hs A H us ds
  n_ : ¬ a.own r
theorem Lw.same {H H' : Hp} {a : Sa} {r : Addr} {us : List V} {ds : List Dv} (l : Lw P w A H a r us ds) (s : Same H H') : Lw P w A H' a r us ds := ⟨s _ _ l.r_, l.h_.imp fun _ _ h => h.sv (Same.sv s), l.n_⟩
theorem Lw.ev {H H' : Hp} {a a' : Sa} {S : St} {r : Addr} {us : List V} {ds : List Dv} (L : Lib P K mg A) (sm : SM P w A H a S) (l : Lw P w A H a r us ds) (e : Ev a a' H H') : Lw P w A H' a' r us ds := ⟨e.fr _ _ l.r_ l.n_, l.h_.imp fun _ _ h => (e.fr.vk L sm).v _ _ h, e.nin l.r_ l.n_⟩
def spLJ (P : Program) (w : World) (A : Ads) : Sp := fun vs H Q _ => ∃ (a : Sa) (S : St) (n : Nat) (x m : Addr) (r : Addr) (us : List V) (ds : List Dv) (z : Str), vs = [.ref a.s, .int (n : Nat), .ref r, .str z] ∧ Pt P w A H a S n x m ds ∧ Lw P w A H a r us ds ∧ ds.length ≤ 1000 ∧ WfS S ∧ (∀ d ∈ ds, okW S d) ∧ z.length ≤ 100 ∧
  ∀ H' a' m', Ev a a' H H' → Pt P w A H' a' S n x m' ds → Q (.bl true) H'
theorem ok_law_join (L : Lib P K mg A) (D : Fd w L) : FnOk P w K mg base CX0 44 L.law_join.f L.law_join.fd ["store", "number", "parts", "between"] (spLJ P w A) := by
  have G_law_call : FnOk P w K mg base CX0 43 L.law_call.f L.law_call.fd ["store", "number", "name", "values"] (spLCall P w K A) := ok_law_call L D
  have G_law_joined : FnOk P w K mg base CX0 39 L.law_joined.f L.law_joined.fd ["store", "parts", "between"] (spLJd P w K A) := ok_law_joined L
  refine L.law_join.F.ok sc_law_join (fun vs H Q E h => ?_) (fun cdv A' outer s H vs Q E hr h => ?_)
  · obtain ⟨a, S, n, x, m, r, us, ds, z, rfl, _⟩ := h
    rfl
  · obtain ⟨a, S, n, x, m, r, us, ds, z, rfl, hp, lw, hz, hw, ho, zl, q⟩ := h
    refine ⟨_, (pss_cons (ps_set (i := 4) sc_law_join.nd rfl (.inl rfl) (pe_call G_law_call (hr.mono (by omega)) (by rfl) L.law_call.g L.law_call.F.kp L.law_call.b .nil pass0 (pa_cons (pv 0) (pa_cons (pv 1) (pa_cons pe_str (pa_cons (pe_lst (pa_cons (pv 3) pa_nil)) pa_nil))))))
      (pss_cons (ps_set (i := 5) sc_law_join.nd rfl (.inl rfl) (pe_call G_law_joined (hr.mono (by omega)) (by rfl) L.law_joined.g L.law_joined.F.kp L.law_joined.b .nil pass0 (pa_cons (pv 0) (pa_cons (pv 2) (pa_cons (pv 3) pa_nil)))))
      (pss_cons (ps_if (pt_cmpR op_gt (pe_callB call_len_str (by rfl) L.z_len PySem.boot_len (pa_cons (pv 5) pa_nil)) pe_int (nomark _))
        (pss_one (ps_ret (pe_cmpR (op_eqV (units64 hr)) (pv 4) (pe_lst (pa_cons pe_str (pa_cons pe_str pa_nil))) (nomark _))))
        pss_nil)
      (pss_one (ps_ret (pe_cmpR (op_eqV (units64 hr)) (pv 4) (pe_lst (pa_cons pe_str (pa_cons (pv 5) pa_nil))) (nomark _))))))), ?_⟩
    refine ⟨_, rfl, _, rfl, _, rfl, (by show 1 ≤ sizeLine; decide), fun l nl => ?_⟩
    have s1 := same_upd (o := .lst [.str z]) nl
    have el : upd H l (.lst [.str z]) l = some (.lst [.str z]) := upd_same
    generalize upd H l _ = H1 at s1 el ⊢
    refine ⟨a, S, n, x, m, ds, l, [.str z], .ok (.join z), rfl, hp.same s1, SqL.of el, ⟨rfl, trivial⟩, hz, ⟨zl, hw, ho⟩, ?_⟩
    show (if szP (jp S 1000 z ds []) ≤ 1000 then Rs.val (.str (cat (jp S 1000 z ds []))) ds else .err "SizeError" "too large").t P w A a S n x H1 _
    obtain ⟨j1, j2⟩ := jp_eq hw (z := z) ho
    have two : 2 ≤ sizeLine := by decide
    have big : (cat (jp S 2000 z ds [])).length = szP (jp S 2000 z ds []) := cat_len _
    have lwz : szP (jp S 2000 z ds []) ≤ sizeLine := by
      have : ∀ (ds : List Dv) (ps : List Str), (∀ d ∈ ds, okW S d) → szP (jp S 2000 z ds ps) ≤ szP ps + 2101 * ds.length := by
        intro ds
        induction ds with
        | nil => intro ps _; exact Nat.le_refl _
        | cons d r ih =>
          intro ps ok
          have h := ih (jstep S 2000 z ps d) fun x hx => ok x (List.mem_cons_of_mem _ hx)
          have tl := txt_small2 hw (ok d (List.mem_cons_self ..))
          have : szP (jstep S 2000 z ps d) ≤ szP ps + 2101 := by
            unfold jstep
            rw [szP_snoc]
            split
            · omega
            · rw [szP_snoc]; omega
          show szP (jp S 2000 z r (jstep S 2000 z ps d)) ≤ _
          rw [List.length_cons]
          omega
      have := this ds [] ho
      have z0 : szP [] = 0 := rfl
      exact Nat.le_trans (m := 3000000) (by omega) (by decide)
    by_cases hs : szP (jp S 1000 z ds []) ≤ 1000
    · rw [if_pos hs]
      intro H2 a2 m2 t ev pt tl
      rw [put_same hp.th] at pt
      obtain ⟨v, ht, hv⟩ := tl
      cases hv
      have lw2 := (lw.same s1).ev L (hp.sm.same s1) ev
      have ea := ev.s
      have e12 : szP (jp S 2000 z ds []) ≤ 1000 := Nat.le_of_not_lt fun h => absurd (j2.mp h) (by omega)
      refine ⟨_, rfl, _, rfl, _, rfl, a2, S, r, us, ds, z, by rw [ea]; rfl, pt.sm, SqL.of lw2.r_, lw2.h_, hz, hw, ho, zl, fun H3 s3 => ?_⟩
      refine ⟨_, rfl, _, rfl, by rw [big]; exact lwz, _, _, rfl, rfl, _, rfl, ifF (decide_eq_false (by rw [big]; omega)) ?_⟩
      refine ⟨_, rfl, _, rfl, two, fun l2 nl2 => ⟨1, by omega, .inl ⟨t, l2, _, _, rfl, rfl, SqL.of ((s3.trans (same_upd nl2)) _ _ ht), SqL.of upd_same, ?_⟩, ?_⟩⟩
      · rw [j1 e12]
        exact .cons (.inl ⟨rfl, rfl⟩) (.cons (.inl ⟨rfl, rfl⟩) .nil)
      · exact q _ a2 m2 (((Ev.same s1).trans ev).trans (Ev.same (s3.trans (same_upd nl2)))) (pt.same (s3.trans (same_upd nl2)))
    · rw [if_neg hs]
      intro H2 t s2 tl
      have s12 := s1.trans s2
      have lw2 := lw.same s12
      have pt := hp.same s12
      have e12 : ¬ szP (jp S 2000 z ds []) ≤ 1000 := fun h => absurd (j2.mpr (by omega)) (by omega)
      refine ⟨_, rfl, _, rfl, _, rfl, a, S, r, us, ds, z, rfl, pt.sm, SqL.of lw2.r_, lw2.h_, hz, hw, ho, zl, fun H3 s3 => ?_⟩
      refine ⟨_, rfl, _, rfl, by rw [big]; exact lwz, _, _, rfl, rfl, _, rfl, ifT (decide_eq_true (by rw [big]; omega)) ?_⟩
      refine ⟨_, rfl, two, fun l2 nl2 => ⟨1, by omega, .inl ⟨t, l2, _, _, rfl, rfl, SqL.of ((s3.trans (same_upd nl2)) _ _ tl), SqL.of upd_same, ?_⟩, ?_⟩⟩
      · exact .cons (.inl ⟨rfl, rfl⟩) (.cons (.inl ⟨rfl, rfl⟩) .nil)
      · exact q _ a m (Ev.same ((s12.trans s3).trans (same_upd nl2))) (pt.same (s3.trans (same_upd nl2)))
end
end My
namespace My
open PySem L2 SX XT XS XE XD XL XZ
open C8 (pss_cut tCut cutS_slice pe_gc)
theorem kindL_int {ds : List Dv} : (kindL ds = "integers") = (ds.all isI = true) := by
  have h : ¬ ("texts" : Str) = "integers" ∧ ¬ ("others" : Str) = "integers" := by decide +kernel
  unfold kindL
  by_cases c : ds.all isI = true
  · simp [c]
  · rw [if_neg c]
    simp only [c]
    by_cases c2 : ds.all isS = true
    · rw [if_pos c2]; simp [h.1]
    · rw [if_neg c2]; simp [h.2]
theorem kindL_oth {ds : List Dv} : (kindL ds = "others") = (oneKb ds = false) := by
  have h : ¬ ("integers" : Str) = "others" ∧ ¬ ("texts" : Str) = "others" := by decide +kernel
  unfold kindL oneKb
  by_cases c : ds.all isI = true
  · rw [if_pos c, c]; simp [h.1]
  · rw [if_neg c]
    by_cases c2 : ds.all isS = true
    · rw [if_pos c2, c2]; simp [h.2]
    · rw [if_neg c2, eq_false_of_ne_true c, eq_false_of_ne_true c2]; simp
theorem str_dec {x y : Str} : decide (V.str x = V.str y) = decide (x = y) := by
  rw [decide_eq_decide]
  exact ⟨fun h => by injection h, fun h => by rw [h]⟩
theorem sumI_snoc {ds : List Dv} {i : Int} : sumI (ds ++ [.int i]) = sumI ds + i := by
  unfold sumI
  rw [List.map_append, List.sum_append]
  show _ + (i + 0) = _
  rw [Int.add_zero]
theorem sum_t {P : Program} {w : World} {A : Ads} {a : Sa} {S : St} {n : Nat} {x m : Addr} {ds : List Dv} {H1 : Hp} {Q' : VK} (hp : Pt P w A H1 a S n x m ds)
    (h : ∀ H2 a2 m2 t, Ev a a2 H1 H2 → Pt P w A H2 a2 S n x m2 ds → TlAt A H2 t (if ds.all isI = true then (if (sumI ds).natAbs < lim then .told (.int (sumI ds)) else .err "OverflowError" "the integer is too large") else .err "KindError" "wrong argument") → Q' (.ref t) H2) :
    (if ds.all isI = true then (if (sumI ds).natAbs < lim then Rs.val (.int (sumI ds)) ds else .err "OverflowError" "the integer is too large") else .err "KindError" "wrong argument").t P w A a S n x H1 Q' := by
  by_cases hI : ds.all isI = true
  · rw [if_pos hI]
    rw [if_pos hI] at h
    by_cases hs : (sumI ds).natAbs < lim
    · rw [if_pos hs]
      rw [if_pos hs] at h
      intro H2 a2 m2 t ev pt tl
      rw [put_same hp.th] at pt
      exact h H2 a2 m2 t ev pt tl
    · rw [if_neg hs]
      rw [if_neg hs] at h
      exact fun H2 t s2 tl => h H2 a m t (Ev.same s2) (hp.same s2) tl
  · rw [if_neg hI]
    rw [if_neg hI] at h
    exact fun H2 t s2 tl => h H2 a m t (Ev.same s2) (hp.same s2) tl
section
variable {P : Program} {w : World} {K : PySem.W.Frag} {mg : Str → Option Value} {base : Heap} {A : Ads}
def spLSm (P : Program) (w : World) (A : Ads) : Sp := fun vs H Q _ => ∃ (a : Sa) (S : St) (n : Nat) (x m : Addr) (r : Addr) (us : List V) (ds : List Dv), vs = [.ref a.s, .int (n : Nat), .ref r] ∧ Pt P w A H a S n x m ds ∧ Lw P w A H a r us ds ∧ ds.length ≤ 1000 ∧ (∀ d ∈ ds, okV S d) ∧
  ∀ H' a' m', Ev a a' H H' → Pt P w A H' a' S n x m' ds → Q (.bl true) H'
theorem ok_law_sum (L : Lib P K mg A) (D : Fd w L) : FnOk P w K mg base CX0 44 L.law_sum.f L.law_sum.fd ["store", "number", "parts"] (spLSm P w A) := by
  have G_law_call : FnOk P w K mg base CX0 43 L.law_call.f L.law_call.fd ["store", "number", "name", "values"] (spLCall P w K A) := ok_law_call L D
  have G_law_kind : FnOk P w K mg base CX0 1 L.law_kind.f L.law_kind.fd ["parts"] (spKnd K A) := ok_law_kind L
  have G_law_greatest : FnOk P w K mg base CX0 1 L.law_greatest.f L.law_greatest.fd [] spBig := ok_law_greatest L
  refine L.law_sum.F.ok sc_law_sum (fun vs H Q E h => ?_) (fun cdv A' outer s H vs Q E hr h => ?_)
  · obtain ⟨a, S, n, x, m, r, us, ds, rfl, _⟩ := h
    rfl
  · obtain ⟨a, S, n, x, m, r, us, ds, rfl, hp, lw, hz, ho, q⟩ := h
    have two : 2 ≤ sizeLine := by decide
    have hl := lw.h_.len
    refine ⟨_, (pss_cons (ps_set (i := 3) sc_law_sum.nd rfl (.inl rfl) (pe_call G_law_call (hr.mono (by omega)) (by rfl) L.law_call.g L.law_call.F.kp L.law_call.b .nil pass0 (pa_cons (pv 0) (pa_cons (pv 1) (pa_cons pe_str (pa_cons (pe_lst pa_nil) pa_nil))))))
      (pss_cut (ps_if (PW.pt (pw_and (pt_cmpR op_gt (pe_callB call_len_seq (by rfl) L.z_len PySem.boot_len (pa_cons (pv 2) pa_nil)) pe_int (nomark _)) (pw_and1 (pt_cmpR op_ne (pe_call G_law_kind (hr.mono (by omega)) (by rfl) L.law_kind.g L.law_kind.F.kp L.law_kind.b .nil pass0 (pa_cons (pv 2) pa_nil)) pe_str (nomark _)))))
        (pss_one (ps_ret (pe_cmpR (op_eqV (units64 hr)) (pv 3) (pe_lst (pa_cons pe_str (pa_cons pe_str pa_nil))) (nomark _))))
        pss_nil)
      (pss_cons (ps_set (i := 4) sc_law_sum.nd rfl (.inl rfl) pe_int)
      (pss_cons (ps_for PassesOwn.never rfl (pi_list (pv 2)) (pg_name (i := 5) sc_law_sum.nd rfl (.inl rfl))
        (pss_one (ps_set (i := 4) sc_law_sum.nd rfl (.inl rfl) (pe_op op_add (pv 4) (pv 5)))))
      (pss_cons (ps_if (pt_not (pt_chain op_le op_le (pe_un un_neg (pe_call0 G_law_greatest (hr.mono (by omega)) (by rfl) L.law_greatest.g L.law_greatest.F.kp L.law_greatest.b .nil pass0)) (pv 4) (pe_call0 G_law_greatest (hr.mono (by omega)) (by rfl) L.law_greatest.g L.law_greatest.F.kp L.law_greatest.b .nil pass0)))
        (pss_one (ps_ret (pe_cmpR (op_eqV (units64 hr)) (pv 3) (pe_lst (pa_cons pe_str (pa_cons pe_str pa_nil))) (nomark _))))
        pss_nil)
      (pss_one (ps_ret (pe_and (pe_cmpR op_eq (pe_ix ix_list (pv 3) pe_int (fun _ _ => rfl)) pe_str (nomark _)) (pe_and (pe_not (pe_callB call_isi (by rfl) L.z_isinstance (by decide +kernel) (pa_cons (pe_ix ix_list (pv 3) pe_int (fun _ _ => rfl)) (pa_cons (pe_bltn (v := .ty "bool") (by rfl) L.z_bool (by decide +kernel) rfl) pa_nil)))) (pe_one (pe_cmpR op_eq (pe_ix ix_list (pv 3) pe_int (fun _ _ => rfl)) (pv 4) (nomark _)))))))))))), ?_⟩
    refine ⟨_, rfl, _, rfl, (by decide), fun l nl => ?_⟩
    have s1 := same_upd (o := .lst []) nl
    have el : upd H l (.lst []) l = some (.lst []) := upd_same
    generalize upd H l _ = H1 at s1 el ⊢
    refine ⟨a, S, n, x, m, ds, l, [], .ok .sum, rfl, hp.same s1, SqL.of el, trivial, hz, ⟨ho, ?_⟩⟩
    show (if ds.all isI = true then (if (sumI ds).natAbs < lim then Rs.val (.int (sumI ds)) ds else .err "OverflowError" "the integer is too large") else .err "KindError" "wrong argument").t P w A a S n x H1 _
    refine sum_t (hp.same s1) fun H2 a2 m2 t ev pt tl => ?_
    have lw2 := (lw.same s1).ev L (hp.sm.same s1) ev
    have ea := ev.s
    have done : ∀ H3, Same H2 H3 → Q (.bl true) H3 := fun H3 s3 => q H3 a2 m2 (((Ev.same s1).trans ev).trans (Ev.same s3)) (pt.same s3)
    refine ⟨fun σ' H' => ∃ y4 y5 : Option V, σ' = [some (.ref a.s), some (.int (n : Nat)), some (.ref r), some (.ref t), y4, y5] ∧ Same H2 H' ∧ ds.all isI = true, ?_, ?_⟩
    · refine ⟨_, rfl, r, us, rfl, .inl (SqL.of lw2.r_), _, _, rfl, rfl, _, rfl, ite2 (fun h0 => ?_) fun h0 => ?_⟩
      · refine ⟨_, rfl, r, us, ds, rfl, SqL.of lw2.r_, lw2.h_, by omega, fun H3 s3 => ⟨rfl, _, rfl, ?_⟩⟩
        rw [str_dec, show decide (kindL ds = "integers") = ds.all isI by rw [Bool.eq_iff_iff, decide_eq_true_iff, kindL_int]]
        by_cases hI : ds.all isI = true
        · rw [hI]
          exact iteF ⟨_, _, rfl, s3, rfl⟩
        · rw [eq_false_of_ne_true hI]
          refine iteT ?_
          rw [if_neg hI] at tl
          refine ⟨_, rfl, two, fun l2 nl2 => ⟨1, by omega, .inl ⟨t, l2, _, _, rfl, rfl, SqL.of ((s3.trans (same_upd nl2)) _ _ tl), SqL.of upd_same, ?_⟩, ?_⟩⟩
          · exact .cons (.inl ⟨rfl, rfl⟩) (.cons (.inl ⟨rfl, rfl⟩) .nil)
          · exact done _ (s3.trans (same_upd nl2))
      · have : ds = [] := by
          have h0 := nd h0
          exact List.length_eq_zero_iff.mp (by omega)
        exact ⟨_, _, rfl, Same.rf, by rw [this]; rfl⟩
    rintro σ H3 ⟨y4, y5, rfl, s3, hI⟩
    rw [if_pos hI] at tl
    have lw3 := lw2.same s3
    refine ⟨_, rfl, r, rfl, ⟨_, SqL.of lw3.r_⟩, for_list (K := K) (a := r) (xs := us) (fun i σ H' => ∃ y5 : Option V, σ = [some (.ref a.s), some (.int (n : Nat)), some (.ref r), some (.ref t), some (.int (sumI (ds.take i))), y5] ∧ H' = H3) ⟨y5, rfl, rfl⟩ (fun i σ H' _ h => by obtain ⟨_, _, rfl⟩ := h; exact SqL.of lw3.r_) ?_ ?_⟩
    · rintro i v σ H4 hv ⟨y, rfl, rfl⟩
      obtain ⟨d, hdi, hvd⟩ := lw3.h_.atv hv
      have tk : ds.take (i + 1) = ds.take i ++ [d] := by rw [List.take_add_one, hdi]; rfl
      obtain ⟨k, rfl⟩ := isI_eq (List.all_eq_true.mp hI d (List.mem_of_getElem? hdi))
      cases hvd
      refine ⟨_, rfl, _, rfl, _, _, rfl, rfl, ?_⟩
      exact ⟨some (.int k), by rw [tk, sumI_snoc]; rfl, rfl⟩
    · rintro σ H4 ⟨y, rfl, rfl⟩
      rw [hl, List.take_length]
      have lb := lim_big
      refine ⟨rfl, _, rfl, _, rfl, _, _, rfl, rfl, _, rfl, ?_⟩
      by_cases hs : (sumI ds).natAbs < lim
      · rw [if_pos hs] at tl
        obtain ⟨v, ht, hv⟩ := tl
        cases hv
        have e1 : -big ≤ sumI ds := by omega
        have e2 : sumI ds ≤ big := by omega
        refine ifT (decide_eq_true e1) ⟨rfl, _, _, rfl, rfl, _, rfl, ?_⟩
        show (if (!decide (sumI ds ≤ big)) = true then _ else _)
        rw [decide_eq_true e2]
        refine iteF ?_
        have t3 := s3 _ _ ht
        refine ⟨_, rfl, t, _, _, .str "told", rfl, rfl, SqL.of t3, atI_nat (j := 0) rfl, rfl, _, rfl, ifT (decide_eq_true rfl) ?_⟩
        have hv : Has A H4 (.int (sumI ds)) (.int (sumI ds)) := rfl
        refine ⟨_, rfl, t, _, _, .int (sumI ds), rfl, rfl, SqL.of t3, atI_nat (j := 1) rfl, .int (sumI ds), .ty "bool", _, _, _, rfl, .ty _, has_ty L hv, kit_bool L (.int (sumI ds)), _, rfl, _, rfl, iteT ?_⟩
        refine ⟨_, rfl, t, _, _, .int (sumI ds), rfl, rfl, SqL.of t3, atI_nat (j := 1) rfl, _, rfl, rfl, ?_⟩
        rw [decide_eq_true rfl]
        exact done _ s3
      · rw [if_neg hs] at tl
        by_cases e1 : -big ≤ sumI ds
        · have e2 : ¬ sumI ds ≤ big := by omega
          refine ifT (decide_eq_true e1) ⟨rfl, _, _, rfl, rfl, _, rfl, ?_⟩
          show (if (!decide (sumI ds ≤ big)) = true then _ else _)
          rw [decide_eq_false e2]
          refine iteT ?_
          refine ⟨_, rfl, two, fun l2 nl2 => ⟨1, by omega, .inl ⟨t, l2, _, _, rfl, rfl, SqL.of ((s3.trans (same_upd nl2)) _ _ tl), SqL.of upd_same, ?_⟩, ?_⟩⟩
          · exact .cons (.inl ⟨rfl, rfl⟩) (.cons (.inl ⟨rfl, rfl⟩) .nil)
          · exact done _ (s3.trans (same_upd nl2))
        · refine ifF (decide_eq_false e1) ⟨_, rfl, ?_⟩
          refine iteT ?_
          refine ⟨_, rfl, two, fun l2 nl2 => ⟨1, by omega, .inl ⟨t, l2, _, _, rfl, rfl, SqL.of ((s3.trans (same_upd nl2)) _ _ tl), SqL.of upd_same, ?_⟩, ?_⟩⟩
          · exact .cons (.inl ⟨rfl, rfl⟩) (.cons (.inl ⟨rfl, rfl⟩) .nil)
          · exact done _ (s3.trans (same_upd nl2))
end
end My
namespace My
open PySem L2 SX XT XS XE XD XL XZ
open C8 (pss_cut tCut cutS_slice pe_gc)
section
variable {P : Program} {w : World} {K : PySem.W.Frag} {mg : Str → Option Value} {base : Heap} {A : Ads}
theorem sort_t {a : Sa} {S : St} {n : Nat} {x m : Addr} {ds : List Dv} {H1 : Hp} {Q' : VK} (hp : Pt P w A H1 a S n x m ds)
    (h : ∀ H2 a2 m2 t, Ev a a2 H1 H2 → Pt P w A H2 a2 (S.put n (if oneKb ds = true then srt ds else ds)) n x m2 (if oneKb ds = true then srt ds else ds) → TlAt A H2 t (if oneKb ds = true then .told .non else .err "KindError" "wrong argument") → Q' (.ref t) H2) :
    (if oneKb ds = true then Rs.val .non (srt ds) else .err "KindError" "wrong argument").t P w A a S n x H1 Q' := by
  by_cases hI : oneKb ds = true
  · simp only [if_pos hI] at h ⊢
    exact fun H2 a2 m2 t ev pt tl => h H2 a2 m2 t ev pt tl
  · simp only [if_neg hI] at h ⊢
    exact fun H2 t s2 tl => h H2 a m t (Ev.same s2) (by rw [put_same hp.th]; exact hp.same s2) tl
theorem ext_t {a : Sa} {S : St} {n : Nat} {x m : Addr} {ds es : List Dv} {H1 : Hp} {Q' : VK} (hp : Pt P w A H1 a S n x m ds)
    (h : ∀ H2 a2 m2 t, Ev a a2 H1 H2 → Pt P w A H2 a2 (S.put n (if ds.length + es.length ≤ 1000 then ds ++ es else ds)) n x m2 (if ds.length + es.length ≤ 1000 then ds ++ es else ds) → TlAt A H2 t (if ds.length + es.length ≤ 1000 then .told .non else .err "SizeError" "too large") → Q' (.ref t) H2) :
    (if ds.length + es.length ≤ 1000 then Rs.val .non (ds ++ es) else .err "SizeError" "too large").t P w A a S n x H1 Q' := by
  by_cases hI : ds.length + es.length ≤ 1000
  · simp only [if_pos hI] at h ⊢
    exact fun H2 a2 m2 t ev pt tl => h H2 a2 m2 t ev pt tl
  · simp only [if_neg hI] at h ⊢
    exact fun H2 t s2 tl => h H2 a m t (Ev.same s2) (by rw [put_same hp.th]; exact hp.same s2) tl
theorem srtd_perm {ds : List Dv} (h : oneKb ds = true) {es : List Dv} (g : Srtd ds es) : (srt ds).Perm ds := by
  rw [srt_eq (oneKb_iff.mp h) g]
  exact g.1
def spLSo (P : Program) (w : World) (A : Ads) : Sp := fun vs H Q _ => ∃ (a : Sa) (S : St) (n : Nat) (x m : Addr) (r : Addr) (us : List V) (ds : List Dv), vs = [.ref a.s, .int (n : Nat), .ref r] ∧ Pt P w A H a S n x m ds ∧ Lw P w A H a r us ds ∧ ds.length ≤ 1000 ∧ (∀ d ∈ ds, okV S d) ∧ (ds.all isS = true → ds.length < 64) ∧
  ∀ H' a' m' es, Ev a a' H H' → es.Perm ds → Pt P w A H' a' (S.put n es) n x m' es → Q (.bl true) H'
theorem ok_law_sort (L : Lib P K mg A) (D : Fd w L) : FnOk P w K mg base CX0 44 L.law_sort.f L.law_sort.fd ["store", "number", "parts"] (spLSo P w A) := by
  have G_law_call : FnOk P w K mg base CX0 43 L.law_call.f L.law_call.fd ["store", "number", "name", "values"] (spLCall P w K A) := ok_law_call L D
  have G_law_kind : FnOk P w K mg base CX0 1 L.law_kind.f L.law_kind.fd ["parts"] (spKnd K A) := ok_law_kind L
  have G_law_same : FnOk P w K mg base CX0 2 L.law_same.f L.law_same.fd ["parts", "others"] (spSame K A) := ok_law_same L
  refine L.law_sort.F.ok sc_law_sort (fun vs H Q E h => ?_) (fun cdv A' outer s H vs Q E hr h => ?_)
  · obtain ⟨a, S, n, x, m, r, us, ds, rfl, _⟩ := h
    rfl
  · obtain ⟨a, S, n, x, m, r, us, ds, rfl, hp, lw, hz, ho, hs64, q⟩ := h
    have two : 2 ≤ sizeLine := by decide
    have hl := lw.h_.len
    obtain ⟨f, G_law_ordered, hf⟩ : ∃ f, FnOk P w K mg base CX0 1 L.law_ordered.f L.law_ordered.fd ["parts"] (spOrd K A f) ∧ (oneKb ds = true → ∀ d ∈ ds, f d = true) := by
      by_cases hI : ds.all isI = true
      · exact ⟨isI, ok_law_orderedI L, fun _ => List.all_eq_true.mp hI⟩
      · refine ⟨isS, ok_law_orderedS L, fun h => ?_⟩
        rcases Bool.or_eq_true_iff.mp h with g | g
        · exact absurd g hI
        · exact List.all_eq_true.mp g
    refine ⟨_, (pss_cons (ps_set (i := 3) sc_law_sort.nd rfl (.inl rfl) (pe_call G_law_call (hr.mono (by omega)) (by rfl) L.law_call.g L.law_call.F.kp L.law_call.b .nil pass0 (pa_cons (pv 0) (pa_cons (pv 1) (pa_cons pe_str (pa_cons (pe_lst pa_nil) pa_nil))))))
      (pss_cons (ps_set (i := 4) sc_law_sort.nd rfl (.inl rfl) (pe_fld (pe_ix ix_list (pe_fld (pv 0) rfl) (pv 1) (fun _ _ => rfl)) rfl))
      (pss_cons (ps_if (pt_cmpR op_eq (pe_call G_law_kind (hr.mono (by omega)) (by rfl) L.law_kind.g L.law_kind.F.kp L.law_kind.b .nil pass0 (pa_cons (pv 2) pa_nil)) pe_str (nomark _))
        (pss_one (ps_ret (pe_and (pe_cmpR (op_eqV (units64 hr)) (pv 3) (pe_lst (pa_cons pe_str (pa_cons pe_str pa_nil))) (nomark _)) (pe_one (pe_call G_law_same (hr.mono (by omega)) (by rfl) L.law_same.g L.law_same.F.kp L.law_same.b .nil pass0 (pa_cons (pv 4) (pa_cons (pv 2) pa_nil)))))))
        pss_nil)
      (pss_cons (ps_if (pt_cmpR op_gt (pe_callB call_len_seq (by rfl) L.z_len PySem.boot_len (pa_cons (pv 2) pa_nil)) pe_int (nomark _))
        (pss_one (ps_ret (pe_and (pe_cmpR (op_eqV (units64 hr)) (pv 3) (pe_lst (pa_cons pe_str (pa_cons pe_non pa_nil))) (nomark _)) (pe_one (pe_call G_law_same (hr.mono (by omega)) (by rfl) L.law_same.g L.law_same.F.kp L.law_same.b .nil pass0 (pa_cons (pv 4) (pa_cons (pe_callB cr_sortedI (by rfl) L.z_sorted (by decide +kernel) (pa_cons (pv 2) pa_nil)) pa_nil)))))))
        pss_nil)
      (pss_one (ps_ret (pe_and (pe_cmpR (op_eqV (units64 hr)) (pv 3) (pe_lst (pa_cons pe_str (pa_cons pe_non pa_nil))) (nomark _)) (pe_one (pe_call G_law_same (hr.mono (by omega)) (by rfl) L.law_same.g L.law_same.F.kp L.law_same.b .nil pass0 (pa_cons (pv 4) (pa_cons (pe_call G_law_ordered (hr.mono (by omega)) (by rfl) L.law_ordered.g L.law_ordered.F.kp L.law_ordered.b .nil pass0 (pa_cons (pv 2) pa_nil)) pa_nil))))))))))), ?_⟩
    refine ⟨_, rfl, _, rfl, (by decide), fun l nl => ?_⟩
    have s1 := same_upd (o := .lst []) nl
    have el : upd H l (.lst []) l = some (.lst []) := upd_same
    generalize upd H l _ = H1 at s1 el ⊢
    refine ⟨a, S, n, x, m, ds, l, [], .ok .sort, rfl, hp.same s1, SqL.of el, trivial, hz, ⟨⟨ho, hs64⟩, ?_⟩⟩
    refine sort_t (hp.same s1) fun H2 a2 m2 t ev pt tl => ?_
    have lw2 := (lw.same s1).ev L (hp.sm.same s1) ev
    have ea := ev.s
    obtain ⟨es, hes⟩ : ∃ es, es = if oneKb ds = true then srt ds else ds := ⟨_, rfl⟩
    rw [← hes] at pt
    obtain ⟨dsS, hsS⟩ := pt.sm.s_
    rw [ea] at hsS
    obtain ⟨dx, vs, g1, g2, g3⟩ := pt.at_
    have ax : atI (a2.X.map V.ref) ((n : Nat) : Int) = some (.ref x) := atI_nat (by rw [List.getElem?_map, pt.x_]; rfl)
    refine ⟨_, rfl, a.s, A.Store, dsS, _, _, rfl, hsS, L.c_Store.cl, L.n_Store_things, st_things _ _ _ _, _, rfl, a2.t, _, _, .ref x, rfl, rfl, SqL.of pt.sm.t_, ax, x, A.Parts, dx, _, _, rfl, g1, L.c_Parts.cl, L.n_Parts_held, lk_hit, ?_⟩
    refine ⟨_, rfl, r, us, ds, rfl, SqL.of lw2.r_, lw2.h_, by omega, fun H3 s3 => ⟨rfl, _, rfl, ?_⟩⟩
    rw [str_dec, show decide (kindL ds = "others") = !oneKb ds by rw [Bool.eq_iff_iff, decide_eq_true_iff, kindL_oth]; simp]
    have lw3 := lw2.same s3
    have g23 := s3 _ _ g2
    have g33 := g3.imp fun _ _ h => h.sv (Same.sv s3)
    by_cases hI : oneKb ds = true
    · rw [if_pos hI] at tl hes
      obtain ⟨v, ht, hv⟩ := tl
      cases hv
      rw [hI]
      refine iteF ⟨_, rfl, r, us, rfl, .inl (SqL.of lw3.r_), _, _, rfl, rfl, _, rfl, ?_⟩
      have t3 := s3 _ _ ht
      have fin : ∀ H4 es', Same H3 H4 → Srtd ds es' → es = es' ∧ Q (.bl true) H4 := fun H4 es' s4 hs => by
        have e : es = es' := by rw [hes]; exact srt_eq (oneKb_iff.mp hI) hs
        refine ⟨e, q H4 a2 m2 es (((Ev.same s1).trans ev).trans (Ev.same (s3.trans s4))) (by rw [hes]; exact srtd_perm hI hs) (pt.same (s3.trans s4))⟩
      refine ite2 (fun h100 => ?_) fun h100 => ?_
      · have h100 := of_decide_eq_true h100
        have hInt : ds.all isI = true := by
          rcases Bool.or_eq_true_iff.mp hI with g | g
          · exact g
          · have := hs64 g
            omega
        have evs : us = (ds.map toI).map V.int := ints_V lw3.h_ hInt
        refine ⟨_, rfl, two, fun l2 nl2 => ⟨1, by omega, .inl ⟨t, l2, _, _, rfl, rfl, SqL.of ((same_upd nl2) _ _ t3), SqL.of upd_same, .cons (.inl ⟨rfl, rfl⟩) (.cons (.inl ⟨rfl, rfl⟩) .nil)⟩, _, rfl, iteT ?_⟩⟩
        have s4 := same_upd (o := .lst [.str "told", .non]) nl2
        generalize upd H3 l2 _ = H4 at s4 ⊢
        refine ⟨_, rfl, _, rfl, r, ds.map toI, rfl, by rw [← evs]; exact SqL.of (s4 _ _ lw3.r_), fun ns' D2 pm pw nD2 => ?_⟩
        have s5 := s4.trans (same_upd (o := .lst (ns'.map V.int)) nD2)
        obtain ⟨e, qq⟩ := fin _ _ s5 (srtd_I hInt pm pw)
        refine ⟨m2, D2, vs, ns'.map V.int, es, ns'.map Dv.int, rfl, SqL.of (s5 _ _ g23), SqL.of upd_same, g33.imp fun _ _ h => h.sv (Same.sv s5), hs_intsL ns', by rw [List.length_map]; have := pm.length_eq; rw [List.length_map] at this; omega, ?_⟩
        rw [e, decide_eq_true rfl]
        exact qq
      · refine ⟨_, rfl, two, fun l2 nl2 => ⟨1, by omega, .inl ⟨t, l2, _, _, rfl, rfl, SqL.of ((same_upd nl2) _ _ t3), SqL.of upd_same, .cons (.inl ⟨rfl, rfl⟩) (.cons (.inl ⟨rfl, rfl⟩) .nil)⟩, _, rfl, iteT ?_⟩⟩
        have s4 := same_upd (o := .lst [.str "told", .non]) nl2
        generalize upd H3 l2 _ = H4 at s4 ⊢
        have lw4 := lw3.same s4
        refine ⟨_, rfl, _, rfl, r, us, ds, rfl, SqL.of lw4.r_, lw4.h_, hf hI, hz, fun H5 D2 us' es' s5 _ e5 h5 hsr => ?_⟩
        obtain ⟨e, qq⟩ := fin _ _ (s4.trans s5) hsr
        refine ⟨m2, D2, vs, us', es, es', rfl, SqL.of ((s4.trans s5) _ _ g23), SqL.of e5, g33.imp fun _ _ h => h.sv (Same.sv (s4.trans s5)), h5, by rw [hsr.1.length_eq]; omega, ?_⟩
        rw [e, decide_eq_true rfl]
        exact qq
    · rw [if_neg hI] at tl hes
      rw [eq_false_of_ne_true hI]
      have t3 := s3 _ _ tl
      refine iteT ⟨_, rfl, two, fun l2 nl2 => ⟨1, by omega, .inl ⟨t, l2, _, _, rfl, rfl, SqL.of ((same_upd nl2) _ _ t3), SqL.of upd_same, .cons (.inl ⟨rfl, rfl⟩) (.cons (.inl ⟨rfl, rfl⟩) .nil)⟩, _, rfl, iteT ?_⟩⟩
      have s4 := same_upd (o := .lst [.str "KindError", .str "wrong argument"]) nl2
      generalize upd H3 l2 _ = H4 at s4 ⊢
      have lw4 := lw3.same s4
      refine ⟨_, rfl, _, rfl, m2, r, vs, us, es, ds, rfl, SqL.of (s4 _ _ g23), SqL.of lw4.r_, g33.imp fun _ _ h => h.sv (Same.sv s4), lw4.h_, by omega, ?_⟩
      rw [hes, decide_eq_true rfl]
      exact q H4 a2 m2 es (((Ev.same s1).trans ev).trans (Ev.same (s3.trans s4))) (by rw [hes]) (pt.same (s3.trans s4))
def spLEx (P : Program) (w : World) (A : Ads) : Sp := fun vs H Q _ => ∃ (a : Sa) (S : St) (n k : Nat) (x m : Addr) (r r2 : Addr) (us us2 : List V) (ds es : List Dv), vs = [.ref a.s, .int (n : Nat), .int (k : Nat), .ref r, .ref r2] ∧ Pt P w A H a S n x m ds ∧ S.things[k]? = some (.parts es) ∧ Lw P w A H a r us ds ∧ Lw P w A H a r2 us2 es ∧ ds.length ≤ 1000 ∧ es.length ≤ 1000 ∧
  ∀ H' a' m' gs, Ev a a' H H' → gs = (if ds.length + es.length ≤ 1000 then ds ++ es else ds) → Pt P w A H' a' (S.put n gs) n x m' gs → Q (.bl true) H'
theorem ok_law_extend (L : Lib P K mg A) (D : Fd w L) : FnOk P w K mg base CX0 44 L.law_extend.f L.law_extend.fd ["store", "number", "other", "parts", "others"] (spLEx P w A) := by
  have G_law_call : FnOk P w K mg base CX0 43 L.law_call.f L.law_call.fd ["store", "number", "name", "values"] (spLCall P w K A) := ok_law_call L D
  have G_law_same : FnOk P w K mg base CX0 2 L.law_same.f L.law_same.fd ["parts", "others"] (spSame K A) := ok_law_same L
  have G_Ref_init : FnOk P w K mg base CX0 1 L.Ref_init.f L.Ref_init.fd ["self", "number"] (spI1 A.Ref "number") := ok_Ref_init L
  refine L.law_extend.F.ok sc_law_extend (fun vs H Q E h => ?_) (fun cdv A' outer s H vs Q E hr h => ?_)
  · obtain ⟨a, S, n, k, x, m, r, r2, us, us2, ds, es, rfl, _⟩ := h
    rfl
  · obtain ⟨a, S, n, k, x, m, r, r2, us, us2, ds, es, rfl, hp, hk, lw, lv, hz, hz2, q⟩ := h
    have two : 2 ≤ sizeLine := by decide
    have hl := lw.h_.len
    have hl2 := lv.h_.len
    refine ⟨_, (pss_cons (ps_set (i := 5) sc_law_extend.nd rfl (.inl rfl) (pe_call G_law_call (hr.mono (by omega)) (by rfl) L.law_call.g L.law_call.F.kp L.law_call.b .nil pass0 (pa_cons (pv 0) (pa_cons (pv 1) (pa_cons pe_str (pa_cons (pe_lst (pa_cons (pe_make L.Ref_init.m G_Ref_init (hr.mono (by omega)) (by rfl) L.c_Ref.g L.Ref_init.b .nil pass0 (pa_cons (pv 2) pa_nil)) pa_nil)) pa_nil))))))
      (pss_cons (ps_set (i := 6) sc_law_extend.nd rfl (.inl rfl) (pe_fld (pe_ix ix_list (pe_fld (pv 0) rfl) (pv 1) (fun _ _ => rfl)) rfl))
      (pss_cons (ps_if (pt_cmpR op_gt (pe_op op_add (pe_callB call_len_seq (by rfl) L.z_len PySem.boot_len (pa_cons (pv 3) pa_nil)) (pe_callB call_len_seq (by rfl) L.z_len PySem.boot_len (pa_cons (pv 4) pa_nil))) pe_int (nomark _))
        (pss_one (ps_ret (pe_and (pe_cmpR (op_eqV (units64 hr)) (pv 5) (pe_lst (pa_cons pe_str (pa_cons pe_str pa_nil))) (nomark _)) (pe_one (pe_call G_law_same (hr.mono (by omega)) (by rfl) L.law_same.g L.law_same.F.kp L.law_same.b .nil pass0 (pa_cons (pv 6) (pa_cons (pv 3) pa_nil)))))))
        pss_nil)
      (pss_one (ps_ret (pe_and (pe_cmpR (op_eqV (units64 hr)) (pv 5) (pe_lst (pa_cons pe_str (pa_cons pe_non pa_nil))) (nomark _)) (pe_one (pe_call G_law_same (hr.mono (by omega)) (by rfl) L.law_same.g L.law_same.F.kp L.law_same.b .nil pass0 (pa_cons (pv 6) (pa_cons (pe_op op_cat (pv 3) (pv 4)) pa_nil)))))))))), ?_⟩
    refine ⟨_, rfl, _, rfl, _, rfl, ?_⟩
    intro y dy ny ndy nyd
    refine ⟨y, dy, _, rfl, upd_same, fun H0 k0 hR => ⟨rfl, ?_⟩⟩
    have s0 : Same H H0 := Same.made ny ndy k0
    refine ⟨(by show 1 ≤ sizeLine; decide), fun l nl => ?_⟩
    have s1 := s0.trans (same_upd (o := .lst [.ref y]) nl)
    have el : upd H0 l (.lst [.ref y]) l = some (.lst [.ref y]) := upd_same
    have hR1 := same_upd (o := .lst [.ref y]) nl _ _ hR
    generalize upd H0 l _ = H1 at s1 el hR1 ⊢
    refine ⟨a, S, n, x, m, ds, l, [.ref y], .ok (.extend k), rfl, hp.same s1, SqL.of el, ⟨⟨y, dy, rfl, hR1⟩, trivial⟩, hz, ⟨⟨es, hk, hz2⟩, ?_⟩⟩
    have pd : partsD S k = es := by
      unfold partsD
      rw [hk]
    show (if ds.length + (partsD S k).length ≤ 1000 then Rs.val .non (ds ++ partsD S k) else .err "SizeError" "too large").t P w A a S n x H1 _
    rw [pd]
    refine ext_t (hp.same s1) fun H2 a2 m2 t ev pt tl => ?_
    have lw2 := (lw.same s1).ev L (hp.sm.same s1) ev
    have lv2 := (lv.same s1).ev L (hp.sm.same s1) ev
    have ea := ev.s
    obtain ⟨gs, hgs⟩ : ∃ gs, gs = if ds.length + es.length ≤ 1000 then ds ++ es else ds := ⟨_, rfl⟩
    rw [← hgs] at pt
    obtain ⟨dsS, hsS⟩ := pt.sm.s_
    rw [ea] at hsS
    obtain ⟨dx, vs, g1, g2, g3⟩ := pt.at_
    have ax : atI (a2.X.map V.ref) ((n : Nat) : Int) = some (.ref x) := atI_nat (by rw [List.getElem?_map, pt.x_]; rfl)
    refine ⟨_, rfl, a.s, A.Store, dsS, _, _, rfl, hsS, L.c_Store.cl, L.n_Store_things, st_things _ _ _ _, _, rfl, a2.t, _, _, .ref x, rfl, rfl, SqL.of pt.sm.t_, ax, x, A.Parts, dx, _, _, rfl, g1, L.c_Parts.cl, L.n_Parts_held, lk_hit, ?_⟩
    refine ⟨_, rfl, r, us, rfl, .inl (SqL.of lw2.r_), _, rfl, r2, us2, rfl, .inl (SqL.of lv2.r_), _, _, rfl, rfl, _, _, rfl, rfl, _, rfl, ?_⟩
    by_cases hI : ds.length + es.length ≤ 1000
    · rw [if_pos hI] at tl hgs
      obtain ⟨v, ht, hv⟩ := tl
      cases hv
      refine ifF (decide_eq_false (by omega)) ?_
      refine ⟨_, rfl, two, fun l2 nl2 => ⟨1, by omega, .inl ⟨t, l2, _, _, rfl, rfl, SqL.of ((same_upd nl2) _ _ ht), SqL.of upd_same, .cons (.inl ⟨rfl, rfl⟩) (.cons (.inl ⟨rfl, rfl⟩) .nil)⟩, _, rfl, iteT ?_⟩⟩
      have s4 := same_upd (o := .lst [.str "told", .non]) nl2
      generalize upd H2 l2 _ = H4 at s4 ⊢
      have lw4 := lw2.same s4
      have lv4 := lv2.same s4
      refine ⟨_, rfl, _, rfl, _, rfl, r, r2, us, us2, rfl, rfl, lw4.r_, lv4.r_, Nat.le_trans (m := 2000) (by omega) (by decide), fun D2 nD2 => ?_⟩
      have s5 := s4.trans (same_upd (o := .lst (us ++ us2)) nD2)
      have h5 : Hs A (upd H4 D2 (.lst (us ++ us2))) (us ++ us2) (ds ++ es) := (lw4.h_.app lv4.h_).imp fun _ _ h => h.sv (Same.sv (same_upd nD2))
      refine ⟨m2, D2, vs, us ++ us2, gs, ds ++ es, rfl, SqL.of (s5 _ _ g2), SqL.of upd_same, g3.imp fun _ _ h => h.sv (Same.sv s5), h5, by rw [List.length_append]; omega, ?_⟩
      rw [hgs, decide_eq_true rfl]
      exact q _ a2 m2 gs (((Ev.same s1).trans ev).trans (Ev.same s5)) (by rw [if_pos hI]; exact hgs) (pt.same s5)
    · rw [if_neg hI] at tl hgs
      refine ifT (decide_eq_true (by omega)) ?_
      refine ⟨_, rfl, two, fun l2 nl2 => ⟨1, by omega, .inl ⟨t, l2, _, _, rfl, rfl, SqL.of ((same_upd nl2) _ _ tl), SqL.of upd_same, .cons (.inl ⟨rfl, rfl⟩) (.cons (.inl ⟨rfl, rfl⟩) .nil)⟩, _, rfl, iteT ?_⟩⟩
      have s4 := same_upd (o := .lst [.str "SizeError", .str "too large"]) nl2
      generalize upd H2 l2 _ = H4 at s4 ⊢
      have lw4 := lw2.same s4
      refine ⟨_, rfl, _, rfl, m2, r, vs, us, gs, ds, rfl, SqL.of (s4 _ _ g2), SqL.of lw4.r_, g3.imp fun _ _ h => h.sv (Same.sv s4), lw4.h_, by omega, ?_⟩
      rw [hgs, decide_eq_true rfl]
      exact q H4 a2 m2 gs (((Ev.same s1).trans ev).trans (Ev.same s4)) (by rw [if_neg hI]; exact hgs) (pt.same s4)
end
end My
namespace My
open PySem L2 SX XT XS XE XD XL XZ
open C8 (pss_cut tCut cutS_slice pe_gc)
theorem kins_len {es : List (Dv × Dv)} : (kinsP es).length = es.length := by
  unfold kinsP
  rw [List.length_map]
theorem zipped_len {S : St} {es : List (Dv × Dv)} : (S.zipped es).things.length = S.things.length + es.length + 1 := by
  show (S.things ++ kinsP es ++ [_]).length = _
  rw [List.length_append, List.length_append, kins_len]
  rfl
theorem zipped_last {S : St} {es : List (Dv × Dv)} : (S.zipped es).things[S.things.length + es.length]? = some (.parts (ids S.things.length es.length)) := by
  show (S.things ++ kinsP es ++ [_])[_]? = _
  have : S.things.length + es.length = (S.things ++ kinsP es).length := by rw [List.length_append, kins_len]
  rw [this, List.getElem?_concat_length]
theorem zipped_mid {S : St} {es : List (Dv × Dv)} {j : Nat} {p : Dv × Dv} (h : es[j]? = some p) : (S.zipped es).things[S.things.length + j]? = some (.parts [p.1, p.2]) := by
  have hj := (List.getElem?_eq_some_iff.mp h).1
  show (S.things ++ kinsP es ++ [_])[_]? = _
  rw [List.getElem?_append_left (by rw [List.length_append, kins_len]; omega), List.getElem?_append_right (by omega), Nat.add_sub_cancel_left]
  unfold kinsP
  rw [List.getElem?_map, h]
  rfl
theorem zipped_old {S : St} {es : List (Dv × Dv)} {j : Nat} (h : j < S.things.length) : (S.zipped es).things[j]? = S.things[j]? := by
  show (S.things ++ kinsP es ++ [_])[j]? = _
  rw [List.getElem?_append_left (by rw [List.length_append]; omega), List.getElem?_append_left h]
section
variable {P : Program} {w : World} {K : PySem.W.Frag} {mg : Str → Option Value} {base : Heap} {A : Ads}
def spLZ (P : Program) (w : World) (A : Ads) : Sp := fun vs H Q _ => ∃ (a : Sa) (S : St) (n k : Nat) (x m : Addr) (r r2 : Addr) (us us2 : List V) (ds es : List Dv), vs = [.ref a.s, .int (n : Nat), .int (k : Nat), .ref r, .ref r2] ∧ Pt P w A H a S n x m ds ∧ S.things[k]? = some (.parts es) ∧ Lw P w A H a r us ds ∧ Lw P w A H a r2 us2 es ∧ ds.length ≤ 1000 ∧ es.length ≤ 1000 ∧ S.things.length < 40000 ∧
  ∀ H' a', Ev a a' H H' → SM P w A H' a' (S.zipped (ds.zip es)) → Q (.bl true) H'
theorem ok_law_zip (L : Lib P K mg A) (D : Fd w L) : FnOk P w K mg base CX0 44 L.law_zip.f L.law_zip.fd ["store", "number", "other", "parts", "others"] (spLZ P w A) := by
  have G_law_call : FnOk P w K mg base CX0 43 L.law_call.f L.law_call.fd ["store", "number", "name", "values"] (spLCall P w K A) := ok_law_call L D
  have G_law_same : FnOk P w K mg base CX0 2 L.law_same.f L.law_same.fd ["parts", "others"] (spSame K A) := ok_law_same L
  have G_Ref_init : FnOk P w K mg base CX0 1 L.Ref_init.f L.Ref_init.fd ["self", "number"] (spI1 A.Ref "number") := ok_Ref_init L
  refine L.law_zip.F.ok sc_law_zip (fun vs H Q E h => ?_) (fun cdv A' outer s H vs Q E hr h => ?_)
  · obtain ⟨a, S, n, k, x, m, r, r2, us, us2, ds, es, rfl, _⟩ := h
    rfl
  · obtain ⟨a, S, n, k, x, m, r, r2, us, us2, ds, es, rfl, hp, hk, lw, lv, hz, hz2, hsz, q⟩ := h
    have two : 2 ≤ sizeLine := by decide
    have hl := lw.h_.len
    have hl2 := lv.h_.len
    obtain ⟨dsS, hsS⟩ := hp.sm.s_
    have many0 : (a.X.map V.ref).length = S.things.length := by rw [List.length_map, hp.sm.lx]
    refine ⟨_, (pss_cons (ps_set (i := 5) sc_law_zip.nd rfl (.inr rfl) (pe_callB call_len_seq (by rfl) L.z_len PySem.boot_len (pa_cons (pe_fld (pv 0) rfl) pa_nil)))
      (pss_cons (ps_set (i := 6) sc_law_zip.nd rfl (.inl rfl) (pe_call G_law_call (hr.mono (by omega)) (by rfl) L.law_call.g L.law_call.F.kp L.law_call.b .nil pass0 (pa_cons (pv 0) (pa_cons (pv 1) (pa_cons pe_str (pa_cons (pe_lst (pa_cons (pe_make L.Ref_init.m G_Ref_init (hr.mono (by omega)) (by rfl) L.c_Ref.g L.Ref_init.b .nil pass0 (pa_cons (pv 2) pa_nil)) pa_nil)) pa_nil))))))
      (pss_cons (ps_set (i := 7) sc_law_zip.nd rfl (.inl rfl) (pe_callB (call_min2 rfl) (by rfl) L.z_min (by decide +kernel) (pa_cons (pe_callB call_len_seq (by rfl) L.z_len PySem.boot_len (pa_cons (pv 3) pa_nil)) (pa_cons (pe_callB call_len_seq (by rfl) L.z_len PySem.boot_len (pa_cons (pv 4) pa_nil)) pa_nil))))
      (pss_cons (ps_if (PW.pt (pw_or (pt_cmpR op_ne (pe_ix ix_list (pv 6) pe_int (fun _ _ => rfl)) pe_str (nomark _)) (pw_or (pt_not (pt_cmpR (op_eqM L (hr.mono (by omega))) (pe_ix ix_list (pv 6) pe_int (fun _ _ => rfl)) (pe_make L.Ref_init.m G_Ref_init (hr.mono (by omega)) (by rfl) L.c_Ref.g L.Ref_init.b .nil pass0 (pa_cons (pe_op op_add (pv 5) (pv 7)) pa_nil)) (nomark _))) (pw_or1 (pt_cmpR op_ne (pe_callB call_len_seq (by rfl) L.z_len PySem.boot_len (pa_cons (pe_fld (pv 0) rfl) pa_nil)) (pe_op op_add (pe_op op_add (pv 5) (pv 7)) pe_int) (nomark _))))))
        (pss_one (ps_ret pe_bl))
        pss_nil)
      (pss_cons (ps_if (pt_not (pt_val (pe_call G_law_same (hr.mono (by omega)) (by rfl) L.law_same.g L.law_same.F.kp L.law_same.b .nil pass0 (pa_cons (pe_fld (pe_ix ix_list (pe_fld (pv 0) rfl) (pe_op op_add (pv 5) (pv 7)) (fun _ _ => rfl)) rfl) (pa_cons (pe_lc (own := [("k", 8)]) (g := gName 8) (tt := tYes) (by rfl) sc_law_zip.nd (pi_range1 (by rfl) L.z_range (pa_cons (pv 7) pa_nil)) (blkOk_by (own := [("k", 8)]) (N := ["store", "number", "other", "parts", "others", "before", "told", "many", "k"]) (sc := defScope (top 135)) (by decide +kernel)) (fun _ _ _ _ _ => (pg_name (i := 8) sc_law_zip.nd rfl (.inl rfl))) (fun _ _ _ _ _ => pts_nil) (fun _ _ _ _ _ => (pe_make L.Ref_init.m G_Ref_init (hr.mono (by omega)) (by rfl) L.c_Ref.g L.Ref_init.b .nil pass0 (pa_cons (pe_op op_add (pv 5) (pv 8)) pa_nil)))) pa_nil)))))
        (pss_one (ps_ret pe_bl))
        pss_nil)
      (pss_cons (ps_for PassesOwn.never rfl (pi_range1 (by rfl) L.z_range (pa_cons (pv 7) pa_nil)) (pg_name (i := 8) sc_law_zip.nd rfl (.inl rfl))
        (pss_one (ps_if (pt_not (pt_val (pe_call G_law_same (hr.mono (by omega)) (by rfl) L.law_same.g L.law_same.F.kp L.law_same.b .nil pass0 (pa_cons (pe_fld (pe_ix ix_list (pe_fld (pv 0) rfl) (pe_op op_add (pv 5) (pv 8)) (fun _ _ => rfl)) rfl) (pa_cons (pe_lst (pa_cons (pe_ix ix_list (pv 3) (pv 8) (fun _ _ => rfl)) (pa_cons (pe_ix ix_list (pv 4) (pv 8) (fun _ _ => rfl)) pa_nil))) pa_nil)))))
        (pss_one (ps_ret pe_bl))
        pss_nil)))
      (pss_one (ps_ret pe_bl)))))))), ?_⟩
    refine ⟨_, rfl, a.s, A.Store, dsS, _, _, rfl, hsS, L.c_Store.cl, L.n_Store_things, st_things _ _ _ _, a.t, _, rfl, .inl (SqL.of hp.sm.t_), ?_⟩
    rw [many0]
    refine ⟨_, rfl, _, rfl, _, rfl, ?_⟩
    intro y dy ny ndy nyd
    refine ⟨y, dy, _, rfl, upd_same, fun H0 k0 hR => ⟨rfl, ?_⟩⟩
    have s0 : Same H H0 := Same.made ny ndy k0
    refine ⟨(by show 1 ≤ sizeLine; decide), fun l nl => ?_⟩
    have s1 := s0.trans (same_upd (o := .lst [.ref y]) nl)
    have el : upd H0 l (.lst [.ref y]) l = some (.lst [.ref y]) := upd_same
    have hR1 := same_upd (o := .lst [.ref y]) nl _ _ hR
    generalize upd H0 l _ = H1 at s1 el hR1 ⊢
    refine ⟨a, S, n, x, m, ds, l, [.ref y], .ok (.zip k), rfl, hp.same s1, SqL.of el, ⟨⟨y, dy, rfl, hR1⟩, trivial⟩, hz, ⟨⟨by omega, es, hk, hz2⟩, ?_⟩⟩
    have pd : partsD S k = es := by
      unfold partsD
      rw [hk]
    show (Rs.prs (ds.zip (partsD S k))).t P w A a S n x H1 _
    rw [pd]
    intro H2 a2 t rr ev sm2 ht hrr
    have zl : (ds.zip es).length = min ds.length es.length := List.length_zip
    have lw2 := (lw.same s1).ev L (hp.sm.same s1) ev
    have lv2 := (lv.same s1).ev L (hp.sm.same s1) ev
    have ea := ev.s
    obtain ⟨N, hN⟩ : ∃ N, N = (ds.zip es).length := ⟨_, rfl⟩
    have hm : (if ((us2.length : Nat) : Int) < ((us.length : Nat) : Int) then ((us2.length : Nat) : Int) else ((us.length : Nat) : Int)) = ((N : Nat) : Int) := by
      split <;> omega
    refine ⟨_, rfl, r, us, rfl, .inl (SqL.of lw2.r_), _, rfl, r2, us2, rfl, .inl (SqL.of lv2.r_), _, _, rfl, ?_⟩
    rw [hm]
    refine ⟨_, rfl, t, _, _, .str "told", rfl, rfl, SqL.of ht, atI_nat (j := 0) rfl, rfl, _, rfl, ifF (by simp) ?_⟩
    refine ⟨_, rfl, t, _, _, .ref rr, rfl, rfl, SqL.of ht, atI_nat (j := 1) rfl, _, rfl, _, rfl, _, _, rfl, rfl, ?_⟩
    intro y2 dy2 ny2 ndy2 nyd2
    refine ⟨y2, dy2, _, rfl, upd_same, fun H3 k3 hR3 => ⟨rfl, ?_⟩⟩
    have s3 : Same H2 H3 := Same.made ny2 ndy2 k3
    refine ⟨.obj (S.things.length + N), .obj (S.things.length + N), by rw [hN]; exact hrr.sv (Same.sv s3), ⟨y2, dy2, rfl, hR3⟩, rfl, _, rfl, ?_⟩
    rw [decide_eq_true rfl]
    refine iteF ?_
    obtain ⟨ds3, hs3⟩ := sm2.s_
    rw [ea] at hs3
    have many2 : (a2.X.map V.ref).length = S.things.length + N + 1 := by rw [List.length_map, sm2.lx, zipped_len, hN]
    refine ⟨_, rfl, a.s, A.Store, ds3, _, _, rfl, s3 _ _ hs3, L.c_Store.cl, L.n_Store_things, st_things _ _ _ _, a2.t, _, rfl, .inl (SqL.of (s3 _ _ sm2.t_)), ?_⟩
    rw [many2]
    refine ⟨_, rfl, _, rfl, _, _, rfl, rfl, _, _, rfl, rfl, rfl, _, rfl, ifF (by simp) ?_⟩
    have sm3 := sm2.same s3
    have lw3 := lw2.same s3
    have lv3 := lv2.same s3
    have hs33 := s3 _ _ hs3
    obtain ⟨xi, mi, hxi, hmi, dxi, vsi, g1, g2, g3⟩ := sm3.get (zipped_last (S := S) (es := ds.zip es))
    rw [← hN] at hxi hmi g3
    have axN : atI (a2.X.map V.ref) (((S.things.length : Nat) : Int) + ((N : Nat) : Int)) = some (.ref xi) := atI_nat (j := S.things.length + N) (by rw [List.getElem?_map, hxi]; rfl)
    refine ⟨_, rfl, a.s, A.Store, ds3, _, _, rfl, hs33, L.c_Store.cl, L.n_Store_things, st_things _ _ _ _, _, rfl, _, rfl, _, _, rfl, rfl, a2.t, _, _, .ref xi, rfl, rfl, SqL.of sm3.t_, axN, xi, A.Parts, dxi, _, _, rfl, g1, L.c_Parts.cl, L.n_Parts_held, lk_hit, ?_⟩
    refine ⟨_, rfl, _, rfl, by omega, by omega, fun Dl nD => lc_range (lo := 0) (n := N) (fun j H' => Same H3 H' ∧ ∃ vs : List V, H' Dl = some (.lst vs) ∧ Hs A H' vs (ids S.things.length j)) ⟨same_upd nD, [], upd_same, trivial⟩ ?_ ?_⟩
    · rintro i H4 hi ⟨s4, vs, e4, h4⟩
      rw [Int.zero_add]
      refine ⟨rfl, _, rfl, _, rfl, _, _, rfl, rfl, ?_⟩
      intro y5 dy5 ny5 ndy5 nyd5
      refine ⟨y5, dy5, _, rfl, upd_same, fun H5 k5 hR5 => ⟨rfl, ?_⟩⟩
      have s5 : Same H4 H5 := Same.made ny5 ndy5 k5
      have lv4 := h4.len
      rw [ids_len] at lv4
      have ne : y5 ≠ Dl := fun z => by rw [z] at ny5; rw [e4] at ny5; cases ny5
      refine ⟨vs, s5 _ _ e4, Nat.lt_of_le_of_lt (m := 1000) (by omega) (by decide), fun b u e => ?_, vs ++ [.ref y5], upd_same, ?_⟩
      · rw [upd_ne (ne_of_none e nD)]
        exact (s4.trans s5) _ _ e
      · have kD : Keep Dl H5 (upd H5 Dl (.lst (vs ++ [.ref y5]))) := fun b o e n => by rw [upd_ne n]; exact e
        have svD := Keep.sv kD (s5 _ _ e4)
        rw [ids_succ]
        exact ((h4.imp fun _ _ h => h.sv (Same.sv s5)).imp fun _ _ h => h.sv svD).app (us := [.ref y5]) (es := [.obj (S.things.length + i)]) ⟨⟨y5, dy5, rfl, by rw [upd_ne ne]; exact hR5⟩, trivial⟩
    rintro H4 ⟨s4, vs4, e4, h4⟩
    have g24 := s4 _ _ g2
    refine ⟨mi, Dl, vsi, vs4, _, ids S.things.length N, rfl, SqL.of g24, SqL.of e4, g3.imp fun _ _ h => h.sv (Same.sv s4), h4, by rw [ids_len]; omega, _, rfl, ?_⟩
    rw [decide_eq_true rfl]
    refine iteF ?_
    have sm4 := sm3.same s4
    have lw4 := lw3.same s4
    have lv4 := lv3.same s4
    refine ⟨_, rfl, _, rfl, by omega, by omega, for_range (n := N) (fun j σ H' => ∃ y8 : Option V, σ = [some (.ref a.s), some (.int (n : Nat)), some (.int (k : Nat)), some (.ref r), some (.ref r2), some (.int (S.things.length : Nat)), some (.ref t), some (.int (N : Nat)), y8] ∧ Same H4 H') ⟨none, rfl, Same.rf⟩ ?_ ?_⟩
    · rintro j σ H5 hj ⟨y8, rfl, s5⟩
      rw [Int.zero_add]
      have jz : j < (ds.zip es).length := by omega
      obtain ⟨p, hpj⟩ : ∃ p, (ds.zip es)[j]? = some p := ⟨_, List.getElem?_eq_getElem jz⟩
      obtain ⟨p1, p2⟩ := p
      have hpz := hpj
      rw [List.getElem?_zip_eq_some] at hpz
      obtain ⟨d1, d2⟩ := hpz
      have sm5 := sm4.same s5
      have lw5 := lw4.same s5
      have lv5 := lv4.same s5
      obtain ⟨v1, hv1, hd1⟩ := lw5.h_.at d1
      obtain ⟨v2, hv2, hd2⟩ := lv5.h_.at d2
      obtain ⟨xj, mj, hxj, hmj, dxj, vsj, j1, j2, j3⟩ := sm5.get (zipped_mid (S := S) hpj)
      have axj : atI (a2.X.map V.ref) (((S.things.length : Nat) : Int) + ((j : Nat) : Int)) = some (.ref xj) := atI_nat (j := S.things.length + j) (by rw [List.getElem?_map, hxj]; rfl)
      refine ⟨_, rfl, a.s, A.Store, ds3, _, _, rfl, (s4.trans s5) _ _ hs33, L.c_Store.cl, L.n_Store_things, st_things _ _ _ _, _, rfl, _, rfl, _, _, rfl, rfl, a2.t, _, _, .ref xj, rfl, rfl, SqL.of sm5.t_, axj, xj, A.Parts, dxj, _, _, rfl, j1, L.c_Parts.cl, L.n_Parts_held, lk_hit, ?_⟩
      refine ⟨_, rfl, _, rfl, r, us, _, v1, rfl, rfl, SqL.of lw5.r_, atI_nat hv1, _, rfl, _, rfl, r2, us2, _, v2, rfl, rfl, SqL.of lv5.r_, atI_nat hv2, two, fun D5 n5 => ?_⟩
      have s6 := same_upd (o := .lst [v1, v2]) n5
      refine ⟨mj, D5, vsj, [v1, v2], _, [p1, p2], rfl, SqL.of (s6 _ _ j2), SqL.of upd_same, j3.imp fun _ _ h => h.sv (Same.sv s6), ⟨hd1.sv (Same.sv s6), hd2.sv (Same.sv s6), trivial⟩, by show 2 ≤ 2000; omega, _, rfl, ?_⟩
      rw [decide_eq_true rfl]
      exact iteF ⟨_, rfl, s5.trans s6⟩
    · rintro σ H5 ⟨y8, rfl, s5⟩
      have q := q H5 a2 (((Ev.same s1).trans ev).trans (Ev.same ((s3.trans s4).trans s5))) (sm4.same s5)
      exact q
end
end My
namespace My
open PySem L2 SX XT XS XE XD XL XZ
open C8 (pss_cut tCut cutS_slice pe_gc)
theorem merge2 (l : Addr) : mergeK [] [(kR, V.ref l), (kA, .int ((0 : Nat) : Int))] = drF l 0 := by
  have h1 : ¬ (kR = kA) := kRA
  unfold mergeK drF
  simp [putK, h1]
section
variable {P : Program} {w : World} {K : PySem.W.Frag} {mg : Str → Option Value} {base : Heap} {A : Ads}
theorem SM.keepK {H H' : Hp} {a : Sa} {S : St} {p : Addr} {kvs : List (Key × V)} (h : SM P w A H a S) (k : Keep p H H') (hp : H p = some (.dK kvs)) (np : ¬ a.own p) : SM P w A H' a S := h.imp (keep_vk hp k) fun b u ho e => k b u e fun z => np (z ▸ ho)
/-- the law's draws beside its store -/
structure LI (P : Program) (w : World) (A : Ads) (H : Hp) (p l : Addr) (rs : List Int) (b : Nat) (a : Sa) (S : St) : Prop where
  d : Dr H p l rs b
  sm : SM P w A H a S
  np : ¬ a.own p
  nl : ¬ a.own l
theorem LI.draw {H H' : Hp} {p l : Addr} {rs : List Int} {b b' : Nat} {a : Sa} {S : St} (I : LI P w A H p l rs b a S) (k : Keep p H H') (d : Dr H' p l rs b') : LI P w A H' p l rs b' a S := by
  obtain ⟨_, _, e⟩ := I.d.p_
  exact ⟨d, I.sm.keepK k e I.np, I.np, I.nl⟩
theorem LI.same {H H' : Hp} {p l : Addr} {rs : List Int} {b : Nat} {a : Sa} {S : St} (I : LI P w A H p l rs b a S) (s : Same H H') : LI P w A H' p l rs b a S := ⟨I.d.same s, I.sm.same s, I.np, I.nl⟩
theorem LI.ev {H H' : Hp} {p l : Addr} {rs : List Int} {b : Nat} {a a' : Sa} {S S' : St} (I : LI P w A H p l rs b a S) (e : Ev a a' H H') (sm : SM P w A H' a' S') : LI P w A H' p l rs b a' S' := by
  obtain ⟨k, hk, ep⟩ := I.d.p_
  exact ⟨⟨⟨k, hk, e.fr _ _ ep I.np⟩, e.fr _ _ I.d.l_ I.nl, I.d.n0, I.d.nz, I.d.b_⟩, sm, e.nin ep I.np, e.nin I.d.l_ I.nl⟩
theorem Lw.draw {H H' : Hp} {p l : Addr} {rs : List Int} {b : Nat} {a : Sa} {S : St} {r : Addr} {us : List V} {ds : List Dv} (I : LI P w A H p l rs b a S) (lw : Lw P w A H a r us ds) (k : Keep p H H') : Lw P w A H' a r us ds := by
  obtain ⟨_, _, e⟩ := I.d.p_
  exact ⟨k _ _ lw.r_ (fun z => by
    have q := lw.r_
    rw [z, e] at q
    cases q), lw.h_.imp (keep_vk e k).v, lw.n_⟩
theorem Pt.drawK {H H' : Hp} {p l : Addr} {rs : List Int} {b : Nat} {a : Sa} {S : St} {n : Nat} {x m : Addr} {ds : List Dv} (I : LI P w A H p l rs b a S) (q : Pt P w A H a S n x m ds) (k : Keep p H H') : Pt P w A H' a S n x m ds := by
  obtain ⟨_, _, e⟩ := I.d.p_
  exact ⟨q.sm.keepK k e I.np, q.x_, q.m_, q.th⟩
/-- a new list of the law is none of the store's -/
theorem Lw.new (L : Lib P K mg A) {H : Hp} {a : Sa} {S : St} {r : Addr} {us : List V} {ds : List Dv} (sm : SM P w A H a S) (nr : H r = none) {H' : Hp} (hr : H' r = some (.lst us)) (hu : Hs A H' us ds) : Lw P w A H' a r us ds := ⟨hr, hu, sm.fresh L nr⟩
theorem long_log : ∀ k, k < 1000 → (long k).natAbs.log2 < 997 := by decide +kernel
/-- what the law draws as parts -/
def Drawn (ds : List Dv) : Prop := ds.length ≤ 1000 ∧ (∀ d ∈ ds, okP d) ∧ (ds.all isS = true → ds.length < 64)
theorem drawn_of {ds : List Dv} (h : (ds.length < 10 ∧ ∀ d ∈ ds, okP d) ∨ ∃ n, 994 ≤ n ∧ n ≤ 1000 ∧ ds = (List.range n).map fun k => .int (long k)) : Drawn ds := by
  rcases h with ⟨h1, h2⟩ | ⟨n, h1, h2, rfl⟩
  · exact ⟨by omega, h2, fun _ => by omega⟩
  · refine ⟨by rw [List.length_map, List.length_range]; exact h2, fun d hd => ?_, fun h => ?_⟩
    · obtain ⟨k, hk, rfl⟩ := List.mem_map.mp hd
      exact long_log k (Nat.lt_of_lt_of_le (List.mem_range.mp hk) h2)
    · have := List.all_eq_true.mp h (.int (long 0)) (List.mem_map.mpr ⟨0, List.mem_range.mpr (by omega), rfl⟩)
      cases this
theorem okP_W {S : St} (h : 3 ≤ S.things.length) {d : Dv} (ok : okP d) : okW S d := by
  cases d with
  | obj n => exact Nat.lt_of_lt_of_le ok h
  | str x => exact Nat.le_trans ok (by decide)
  | int i => exact Nat.lt_of_lt_of_le ok (by decide)
  | _ => trivial
theorem okP_V {S : St} (h : 3 ≤ S.things.length) {d : Dv} (ok : okP d) : okV S d := okV_of (okP_W h ok)
def sto2 (ds es : List Dv) : St := { stO [] with things := (stO []).things ++ [.parts ds] ++ [.parts es] }
theorem sto2_wf {ds es : List Dv} (h1 : Drawn ds) (h2 : Drawn es) : WfS (sto2 ds es) := by
  have l3 : (sto2 ds es).things.length = 3 := rfl
  refine ⟨by rw [l3]; decide, fun n t ht => ?_⟩
  match n, ht with
  | 0, ht =>
    cases ht
    show ("Error" : Str).length ≤ 1000
    decide +kernel
  | 1, ht =>
    cases ht
    exact ⟨h1.1, fun d hd => okP_W (by rw [l3]; omega) (h1.2.1 d hd)⟩
  | 2, ht =>
    cases ht
    exact ⟨h2.1, fun d hd => okP_W (by rw [l3]; omega) (h2.2.1 d hd)⟩
  | n + 3, ht =>
    have := (List.getElem?_eq_some_iff.mp ht).1
    rw [l3] at this
    omega
def spLaw (K : PySem.W.Frag) : Sp := fun vs H Q _ => ∃ (a : Addr) (ns : List Int), vs = [.ref a] ∧ SqL K H a (ns.map V.int) ∧ ns.length ≤ 63 ∧ ∀ H', Q (.bl true) H'
theorem ok_law {f : Addr} {fd : FuncData} (F : Fun K "law" "law" s_law f fd) (L : Lib P K mg A) (D : Fd w L) : FnOk P w K mg base CX0 46 f fd ["script"] (spLaw K) := by
  have G_law_rows : FnOk P w K mg base CX0 1 L.law_rows.f L.law_rows.fd ["script", "count_v"] (spRows K) := ok_law_rows L
  have G_law_draw : FnOk P w K mg base CX0 1 L.law_draw.f L.law_draw.fd ["state", "count_v"] spDr := ok_law_draw L
  have G_law_parts : FnOk P w K mg base CX0 4 L.law_parts.f L.law_parts.fd ["state"] (spParts K A) := ok_law_parts L
  have G_Store_init : FnOk P w K mg base CX0 3 L.Store_init.f L.Store_init.fd ["self", "lines"] (spSI P w K A) := ok_Store_init L
  have G_Ref_init : FnOk P w K mg base CX0 1 L.Ref_init.f L.Ref_init.fd ["self", "number"] (spI1 A.Ref "number") := ok_Ref_init L
  have G_make_list : FnOk P w K mg base CX0 4 L.make_list.f L.make_list.fd ["store", "values"] (spML P w K A) := ok_make_list L
  have G_law_same : FnOk P w K mg base CX0 2 L.law_same.f L.law_same.fd ["parts", "others"] (spSame K A) := ok_law_same L
  have G_law_join : FnOk P w K mg base CX0 44 L.law_join.f L.law_join.fd ["store", "number", "parts", "between"] (spLJ P w A) := ok_law_join L D
  have G_law_sum : FnOk P w K mg base CX0 44 L.law_sum.f L.law_sum.fd ["store", "number", "parts"] (spLSm P w A) := ok_law_sum L D
  have G_law_zip : FnOk P w K mg base CX0 44 L.law_zip.f L.law_zip.fd ["store", "number", "other", "parts", "others"] (spLZ P w A) := ok_law_zip L D
  have G_law_sort : FnOk P w K mg base CX0 44 L.law_sort.f L.law_sort.fd ["store", "number", "parts"] (spLSo P w A) := ok_law_sort L D
  have G_law_extend : FnOk P w K mg base CX0 44 L.law_extend.f L.law_extend.fd ["store", "number", "other", "parts", "others"] (spLEx P w A) := ok_law_extend L D
  have G_law_call : FnOk P w K mg base CX0 43 L.law_call.f L.law_call.fd ["store", "number", "name", "values"] (spLCall P w K A) := ok_law_call L D
  refine F.ok sc_law (fun vs H Q E h => ?_) (fun cdv A' outer s H vs Q E hr h => ?_)
  · obtain ⟨a, ns, rfl, _⟩ := h
    rfl
  · obtain ⟨a, ns, rfl, ha, hns, q⟩ := h
    refine ⟨_, (pss_cons (ps_set (i := 1) sc_law.nd rfl (.inl rfl) (pe_disp (pps_cons pe_str (pe_call G_law_rows (hr.mono (by omega)) (by rfl) L.law_rows.g L.law_rows.F.kp L.law_rows.b .nil pass0 (pa_cons (pv 0) (pa_cons pe_int pa_nil))) (pps_cons pe_str pe_int pps_nil)) rfl rfl (by decide) (by decide)))
      (pss_cons (ps_for PassesOwn.never rfl (pi_range1 (by rfl) L.z_range (pa_cons pe_int pa_nil)) (pg_name (i := 2) sc_law.nd rfl (.inl rfl))
        (pss_cons (ps_set (i := 3) sc_law.nd rfl (.inl rfl) (pe_make L.Store_init.m G_Store_init (hr.mono (by omega)) (by rfl) L.c_Store.g L.Store_init.b .nil pass0 (pa_cons (pe_lst pa_nil) pa_nil)))
      (pss_cons (ps_set (i := 4) sc_law.nd rfl (.inl rfl) (pe_call G_law_parts (hr.mono (by omega)) (by rfl) L.law_parts.g L.law_parts.F.kp L.law_parts.b .nil pass0 (pa_cons (pv 1) pa_nil)))
      (pss_cons (ps_set (i := 5) sc_law.nd rfl (.inl rfl) (pe_call G_law_parts (hr.mono (by omega)) (by rfl) L.law_parts.g L.law_parts.F.kp L.law_parts.b .nil pass0 (pa_cons (pv 1) pa_nil)))
      (pss_cons (ps_expr (pe_call G_make_list (hr.mono (by omega)) (by rfl) L.make_list.g L.make_list.F.kp L.make_list.b .nil pass0 (pa_cons (pv 3) (pa_cons (pe_callTy call_list_of (by rfl) L.z_list (by decide +kernel) (pa_cons (pv 4) pa_nil)) pa_nil))))
      (pss_cons (ps_expr (pe_call G_make_list (hr.mono (by omega)) (by rfl) L.make_list.g L.make_list.F.kp L.make_list.b .nil pass0 (pa_cons (pv 3) (pa_cons (pe_callTy call_list_of (by rfl) L.z_list (by decide +kernel) (pa_cons (pv 5) pa_nil)) pa_nil))))
      (pss_cons (ps_set (i := 6) sc_law.nd rfl (.inl rfl) (pe_ix ix_list (pe_lst (pa_cons pe_str (pa_cons pe_str (pa_cons pe_str (pa_cons (pe_op op_mul_str pe_str pe_int) (pa_cons pe_str pa_nil)))))) (pe_call G_law_draw (hr.mono (by omega)) (by rfl) L.law_draw.g L.law_draw.F.kp L.law_draw.b .nil pass0 (pa_cons (pv 1) (pa_cons pe_int pa_nil))) (fun _ _ => rfl)))
      (pss_cons (ps_if (PW.pt (pw_or (pt_not (pt_val (pe_call G_law_join (hr.mono (by omega)) (by rfl) L.law_join.g L.law_join.F.kp L.law_join.b .nil pass0 (pa_cons (pv 3) (pa_cons pe_int (pa_cons (pv 4) (pa_cons (pv 6) pa_nil))))))) (pw_or1 (pt_not (pt_val (pe_call G_law_sum (hr.mono (by omega)) (by rfl) L.law_sum.g L.law_sum.F.kp L.law_sum.b .nil pass0 (pa_cons (pv 3) (pa_cons pe_int (pa_cons (pv 4) pa_nil)))))))))
        (pss_one (ps_ret pe_bl))
        pss_nil)
      (pss_cut (ps_if (PW.pt (pw_or (PW.pt (pw_and (pt_cmpR op_lt (pe_callB call_len_seq (by rfl) L.z_len PySem.boot_len (pa_cons (pv 4) pa_nil)) pe_int (nomark _)) (pw_and1 (pt_not (pt_val (pe_call G_law_zip (hr.mono (by omega)) (by rfl) L.law_zip.g L.law_zip.F.kp L.law_zip.b .nil pass0 (pa_cons (pv 3) (pa_cons pe_int (pa_cons pe_int (pa_cons (pv 4) (pa_cons (pv 5) pa_nil))))))))))) (pw_or1 (pt_not (pt_val (pe_call G_law_same (hr.mono (by omega)) (by rfl) L.law_same.g L.law_same.F.kp L.law_same.b .nil pass0 (pa_cons (pe_fld (pe_ix ix_list (pe_fld (pv 3) rfl) pe_int (fun _ _ => rfl)) rfl) (pa_cons (pv 5) pa_nil))))))))
        (pss_one (ps_ret pe_bl))
        pss_nil)
      (pss_cons (ps_if (pt_cmpR (op_neD (units64 hr)) (pe_call G_law_call (hr.mono (by omega)) (by rfl) L.law_call.g L.law_call.F.kp L.law_call.b .nil pass0 (pa_cons (pv 3) (pa_cons pe_int (pa_cons pe_str (pa_cons (pe_lst (pa_cons (pe_ix ix_list (pe_lst (pa_cons pe_non (pa_cons pe_int (pa_cons (pe_make L.Ref_init.m G_Ref_init (hr.mono (by omega)) (by rfl) L.c_Ref.g L.Ref_init.b .nil pass0 (pa_cons pe_int pa_nil)) pa_nil)))) (pe_call G_law_draw (hr.mono (by omega)) (by rfl) L.law_draw.g L.law_draw.F.kp L.law_draw.b .nil pass0 (pa_cons (pv 1) (pa_cons pe_int pa_nil))) (fun _ _ => rfl)) pa_nil)) pa_nil))))) (pe_lst (pa_cons pe_str (pa_cons pe_str pa_nil))) (nomark _))
        (pss_one (ps_ret pe_bl))
        pss_nil)
      (pss_cons (ps_if (pt_not (pt_val (pe_call G_law_sort (hr.mono (by omega)) (by rfl) L.law_sort.g L.law_sort.F.kp L.law_sort.b .nil pass0 (pa_cons (pv 3) (pa_cons pe_int (pa_cons (pv 4) pa_nil))))))
        (pss_one (ps_ret pe_bl))
        pss_nil)
      (pss_cons (ps_set (i := 4) sc_law.nd rfl (.inl rfl) (pe_callTy call_list_of (by rfl) L.z_list (by decide +kernel) (pa_cons (pe_fld (pe_ix ix_list (pe_fld (pv 3) rfl) pe_int (fun _ _ => rfl)) rfl) pa_nil)))
      (pss_cons (ps_if (PW.pt (pw_or (pt_not (pt_val (pe_call G_law_extend (hr.mono (by omega)) (by rfl) L.law_extend.g L.law_extend.F.kp L.law_extend.b .nil pass0 (pa_cons (pv 3) (pa_cons pe_int (pa_cons pe_int (pa_cons (pv 4) (pa_cons (pv 5) pa_nil)))))))) (pw_or1 (pt_not (pt_val (pe_call G_law_same (hr.mono (by omega)) (by rfl) L.law_same.g L.law_same.F.kp L.law_same.b .nil pass0 (pa_cons (pe_fld (pe_ix ix_list (pe_fld (pv 3) rfl) pe_int (fun _ _ => rfl)) rfl) (pa_cons (pv 5) pa_nil))))))))
        (pss_one (ps_ret pe_bl))
        pss_nil)
      (pss_cons (ps_set (i := 4) sc_law.nd rfl (.inl rfl) (pe_callTy call_list_of (by rfl) L.z_list (by decide +kernel) (pa_cons (pe_fld (pe_ix ix_list (pe_fld (pv 3) rfl) pe_int (fun _ _ => rfl)) rfl) pa_nil)))
      (pss_one (ps_if (PW.pt (pw_and (pt_cmpR op_le (pe_callB call_len_seq (by rfl) L.z_len PySem.boot_len (pa_cons (pv 4) pa_nil)) pe_int (nomark _)) (pw_and1 (pt_not (pt_val (pe_call G_law_extend (hr.mono (by omega)) (by rfl) L.law_extend.g L.law_extend.F.kp L.law_extend.b .nil pass0 (pa_cons (pv 3) (pa_cons pe_int (pa_cons pe_int (pa_cons (pv 4) (pa_cons (pv 4) pa_nil)))))))))))
        (pss_one (ps_ret pe_bl))
        pss_nil))))))))))))))))
      (pss_one (ps_ret pe_bl)))), ?_⟩
    intro p np
    have s0 := same_upd (o := .dK []) np
    refine ⟨_, rfl, a, ns, 60, rfl, s0.seq ha, by omega, fun H1 l rs s1 nl el ll => ?_⟩
    have ep := s1 _ _ (upd_same (H := H) (a := p) (o := .dK []))
    refine ⟨ep, [(kR, .ref l), (kA, .int ((0 : Nat) : Int))], rfl, (by show 2 ≤ 15; decide), ?_⟩
    rw [merge2]
    have lp : l ≠ p := fun z => by rw [z, upd_same] at nl; cases nl
    have D0 : Dr (upd H1 p (.dK (drF l 0))) p l rs 0 := ⟨⟨0, Nat.le_refl _, upd_same⟩, by rw [upd_ne lp]; exact el, by omega, by omega, by omega⟩
    generalize upd H1 p _ = H2 at D0 ⊢
    refine ⟨_, rfl, by decide, by decide, for_range (n := 3) (fun i σ H' => ∃ y2 y3 y4 y5 y6 : Option V, σ = [some (.ref a), some (.ref p), y2, y3, y4, y5, y6] ∧ Dr H' p l rs (102 * i)) ⟨none, none, none, none, none, rfl, D0⟩ ?_ ?_⟩
    · rintro i σ H3 hi ⟨y2, y3, y4, y5, y6, rfl, D3⟩
      refine ⟨(by decide), fun l0 nl0 b db nb ndb ndbb => ?_⟩
      have sm0 : Same H3 (upd (upd (upd H3 l0 (.lst [])) db (.own b)) b (.ins A.Store db [])) := fun c u e => by
        have e1 : upd H3 l0 (.lst []) c = some u := by rw [upd_ne (ne_of_none e nl0)]; exact e
        rw [upd_ne (ne_of_none e1 nb), upd_ne (ne_of_none e1 ndb)]
        exact e1
      have nl' : ∀ c, upd H3 l0 (.lst []) c = none → c ≠ l0 := fun c e z => by rw [z, upd_same] at e; cases e
      have nb1 : H3 b = none := by have := nl' b nb; rw [upd_ne this] at nb; exact nb
      refine ⟨b, db, l0, [], rfl, upd_same, SqL.of (by rw [upd_ne (nl' b nb).symm, upd_ne (nl' db ndb).symm]; exact upd_same), (nl' b nb).symm, fun H4 sa hsb k4 sm4 fr4 => ⟨rfl, ?_⟩⟩
      subst hsb
      have s4 : Same H3 H4 := fun c u e => k4 _ _ (sm0 _ _ e) fun z => by rw [z, nb1] at e; cases e
      have ownN : ∀ c, sa.own c → H3 c = none := fun c z => by
        rcases fr4 c z with rfl | q
        · exact nb1
        · exact sm0.free q
      obtain ⟨kp3, hkp3, ep3⟩ := id D3.p_
      have I4 : LI P w A H4 p l rs (102 * i) sa (stO []) := ⟨D3.same s4, sm4, (fun z => by rw [ownN p z] at ep3; cases ep3), (fun z => by have := D3.l_; rw [ownN l z] at this; cases this)⟩
      clear sm0 nl' nb1 ownN k4 fr4 sm4 nb ndb ndbb nl0 s4 ep3 hkp3 kp3
      refine ⟨_, rfl, p, l, rs, 102 * i, rfl, I4.d, by omega, fun H5 r us ds k5 D5 nr hr5 hu5 dr => ?_⟩
      have I5 := I4.draw k5 D5
      have dd := drawn_of dr
      have lw5 := Lw.new L I4.sm nr hr5 hu5
      refine ⟨_, rfl, p, l, rs, 102 * i + 50, rfl, D5, by omega, fun H6 r2 us2 es k6 D6 nr2 hr6 hu6 dr2 => ?_⟩
      have I6 := I5.draw k6 D6
      have de := drawn_of dr2
      have lv6 := Lw.new L I5.sm nr2 hr6 hu6
      have lw6 := Lw.draw I5 lw5 k6
      refine ⟨_, rfl, _, rfl, r, us, rfl, .inl (SqL.of lw6.r_), fun G nG => ?_⟩
      have sG := same_upd (o := .lst us) nG
      have I6' := I6.same sG
      have lw6' := lw6.same sG
      have lv6' := lv6.same sG
      refine ⟨sa, stO [], G, us, ds, rfl, I6'.sm, SqL.of upd_same, lw6'.h_, dd.1, (by show 1 < 100000; decide), fun H7 rr sa7 ev7 sm7 _ => ?_⟩
      have I7 := I6'.ev ev7 sm7
      have lw7 := lw6'.ev L I6'.sm ev7
      have lv7 := lv6'.ev L I6'.sm ev7
      have e7 := ev7.s
      refine ⟨_, rfl, _, rfl, r2, us2, rfl, .inl (SqL.of lv7.r_), fun G2 nG2 => ?_⟩
      have sG2 := same_upd (o := .lst us2) nG2
      have I7' := I7.same sG2
      have lw7' := lw7.same sG2
      have lv7' := lv7.same sG2
      refine ⟨sa7, _, G2, us2, es, by rw [e7]; rfl, I7'.sm, SqL.of upd_same, lv7'.h_, de.1, (by show 2 < 100000; decide), fun H8 rr2 sa8 ev8 sm8 _ => ?_⟩
      have I8 : LI P w A H8 p l rs (102 * i + 50 + 50) sa8 (sto2 ds es) := I7'.ev ev8 sm8
      have lw8 := lw7'.ev L I7'.sm ev8
      have lv8 := lv7'.ev L I7'.sm ev8
      have e8 : sa8.s = sa.s := ev8.s.trans e7
      clear I4 I5 I6 I6' I7 I7' lw5 lw6 lw6' lw7 lw7' lv6 lv6' lv7 lv7' sG sG2 ev7 ev8 sm7 sm8 nG nG2 e7
      obtain ⟨m1, m2⟩ : MulOk "x" (40 : Int) ∧ (Txt.mul "x" (40 : Int)).length ≤ 100 := by
        unfold MulOk
        decide +kernel
      refine ⟨_, _, rfl, rfl, m1, by show 5 ≤ sizeLine; decide, fun T nT => ?_⟩
      obtain ⟨_, _, ep8⟩ := id I8.d.p_
      have sT := same_upd (o := .lst [.str "", .str ", ", .str "\n", .str (Txt.mul "x" (40 : Int)), .str "ab"]) nT
      have I8' := I8.same sT
      have lw8' := lw8.same sT
      have lv8' := lv8.same sT
      have TD : T ≠ p := (ne_of_none ep8 nT).symm
      refine ⟨_, rfl, p, l, rs, 102 * i + 50 + 50, 5, rfl, I8'.d, by omega, by decide, fun H9 j k9 D9 hj => ?_⟩
      have I9 := I8'.draw k9 D9
      have lw9 := Lw.draw I8' lw8' k9
      have lv9 := Lw.draw I8' lv8' k9
      have eT := k9 _ _ (show upd H8 T (.lst [.str "", .str ", ", .str "\n", .str (Txt.mul "x" (40 : Int)), .str "ab"]) T = _ from upd_same) TD
      obtain ⟨z, hz, zl⟩ : ∃ z : Str, ([.str "", .str ", ", .str "\n", .str (Txt.mul "x" (40 : Int)), .str "ab"] : List V)[j]? = some (.str z) ∧ z.length ≤ 100 := by
        have l4 : ("" : Str).length ≤ 100 ∧ (", " : Str).length ≤ 100 ∧ ("\n" : Str).length ≤ 100 ∧ ("ab" : Str).length ≤ 100 := by decide +kernel
        match j, hj with
        | 0, _ => exact ⟨_, rfl, l4.1⟩
        | 1, _ => exact ⟨_, rfl, l4.2.1⟩
        | 2, _ => exact ⟨_, rfl, l4.2.2.1⟩
        | 3, _ => exact ⟨_, rfl, m2⟩
        | 4, _ => exact ⟨_, rfl, l4.2.2.2⟩
      refine ⟨T, _, _, .str z, rfl, rfl, SqL.of eT, atI_nat hz, ?_⟩
      clear I8 I8' lw8 lw8' lv8 lv8' sT
      have l3 : (sto2 ds es).things.length = 3 := rfl
      have okw : ∀ d ∈ ds, okW (sto2 ds es) d := fun d hd => okP_W (by rw [l3]; omega) (dd.2.1 d hd)
      obtain ⟨x, m, hx, hm, _⟩ := I9.sm.get (i := 1) (show (sto2 ds es).things[1]? = some (.parts ds) from rfl)
      have pt9 : Pt P w A H9 sa8 (sto2 ds es) 1 x m ds := ⟨I9.sm, hx, hm, rfl⟩
      refine ⟨_, rfl, _, rfl, _, rfl, sa8, sto2 ds es, 1, x, m, r, us, ds, z, by rw [e8]; rfl, pt9, lw9, dd.1, sto2_wf dd de, okw, zl, fun H10 a10 m10 ev10 pt10 => ⟨_, rfl, iteF ?_⟩⟩
      have I10 := I9.ev ev10 pt10.sm
      have lw10 := lw9.ev L I9.sm ev10
      have lv10 := lv9.ev L I9.sm ev10
      have e10 : a10.s = sa.s := ev10.s.trans e8
      refine ⟨_, rfl, _, rfl, a10, sto2 ds es, 1, x, m10, r, us, ds, by rw [e10]; rfl, pt10, lw10, dd.1, fun d hd => okV_of (okw d hd), fun H11 a11 m11 ev11 pt11 => ⟨_, rfl, iteF ?_⟩⟩
      have I11 := I10.ev ev11 pt11.sm
      have lw11 := lw10.ev L I10.sm ev11
      have lv11 := lv10.ev L I10.sm ev11
      have e11 : a11.s = sa.s := ev11.s.trans e10
      clear I9 I10 lw9 lw10 lv9 lv10 pt9 pt10 ev10 ev11
      refine ⟨fun σ' H' => ∃ a' S', σ' = [some (.ref a), some (.ref p), some (.int (0 + (i : Nat))), some (.ref sa.s), some (.ref r), some (.ref r2), some (.str z)] ∧ LI P w A H' p l rs (102 * i + 50 + 50 + 1) a' S' ∧ a'.s = sa.s ∧ Lw P w A H' a' r us ds ∧ Lw P w A H' a' r2 us2 es ∧ S'.things[1]? = some (.parts ds) ∧ S'.things[2]? = some (.parts es) ∧ 3 ≤ S'.things.length ∧ S'.things.length ≤ 2000, ?_, ?_⟩
      · refine ⟨_, rfl, r, us, rfl, .inl (SqL.of lw11.r_), _, _, rfl, rfl, _, rfl, ite2 (fun h20 => ?_) fun h20 => ?_⟩
        · refine ⟨_, rfl, _, rfl, _, rfl, a11, sto2 ds es, 1, 2, x, m11, r, r2, us, us2, ds, es, by rw [e11]; rfl, pt11, rfl, lw11, lv11, dd.1, de.1, by rw [l3]; omega, fun H12 a12 ev12 sm12 => ⟨_, rfl, iteF ?_⟩⟩
          have I12 := I11.ev ev12 sm12
          have lw12 := lw11.ev L I11.sm ev12
          have lv12 := lv11.ev L I11.sm ev12
          have e12 : a12.s = sa.s := ev12.s.trans e11
          have t1 : ((sto2 ds es).zipped (ds.zip es)).things[1]? = some (.parts ds) := zipped_old (by rw [l3]; omega)
          have t2 : ((sto2 ds es).zipped (ds.zip es)).things[2]? = some (.parts es) := zipped_old (by rw [l3]; omega)
          have zl2 : (ds.zip es).length ≤ 1000 := by rw [List.length_zip]; have := dd.1; omega
          obtain ⟨x2, m2', hx2, hm2, dx2, vs2, b1, b2, b3⟩ := I12.sm.get t2
          obtain ⟨dS2, hS2⟩ := I12.sm.s_
          rw [e12] at hS2
          have ax2 : atI (a12.X.map V.ref) 2 = some (.ref x2) := atI_nat (j := 2) (by rw [List.getElem?_map, hx2]; rfl)
          refine ⟨_, rfl, sa.s, A.Store, dS2, _, _, rfl, hS2, L.c_Store.cl, L.n_Store_things, st_things _ _ _ _, a12.t, _, _, .ref x2, rfl, rfl, SqL.of I12.sm.t_, ax2, x2, A.Parts, dx2, _, _, rfl, b1, L.c_Parts.cl, L.n_Parts_held, lk_hit, _, rfl, m2', r2, vs2, us2, es, es, rfl, SqL.of b2, SqL.of lv12.r_, b3, lv12.h_, Nat.le_trans de.1 (by decide), _, rfl, ?_⟩
          rw [decide_eq_true rfl]
          exact iteF ⟨a12, _, rfl, I12, e12, lw12, lv12, t1, t2, by rw [zipped_len, l3]; omega, by rw [zipped_len, l3]; omega⟩
        · have t2 : (sto2 ds es).things[2]? = some (.parts es) := rfl
          obtain ⟨x2, m2', hx2, hm2, dx2, vs2, b1, b2, b3⟩ := I11.sm.get t2
          obtain ⟨dS2, hS2⟩ := I11.sm.s_
          rw [e11] at hS2
          have ax2 : atI (a11.X.map V.ref) 2 = some (.ref x2) := atI_nat (j := 2) (by rw [List.getElem?_map, hx2]; rfl)
          refine ⟨_, rfl, sa.s, A.Store, dS2, _, _, rfl, hS2, L.c_Store.cl, L.n_Store_things, st_things _ _ _ _, a11.t, _, _, .ref x2, rfl, rfl, SqL.of I11.sm.t_, ax2, x2, A.Parts, dx2, _, _, rfl, b1, L.c_Parts.cl, L.n_Parts_held, lk_hit, _, rfl, m2', r2, vs2, us2, es, es, rfl, SqL.of b2, SqL.of lv11.r_, b3, lv11.h_, Nat.le_trans de.1 (by decide), _, rfl, ?_⟩
          rw [decide_eq_true rfl]
          exact iteF ⟨a11, _, rfl, I11, e11, lw11, lv11, rfl, rfl, by rw [l3]; omega, by rw [l3]; omega⟩
      rintro σ H12 ⟨a12, S12, rfl, I12, e12, lw12, lv12, t1, t2, n3, nb⟩
      clear I11 lw11 lv11 pt11 e11 hx hm okw
      obtain ⟨x, m, hx, hm, _⟩ := I12.sm.get t1
      have pt12 : Pt P w A H12 a12 S12 1 x m ds := ⟨I12.sm, hx, hm, t1⟩
      refine ⟨_, rfl, ?_⟩
      intro y dy ny ndy nyd
      refine ⟨y, dy, _, rfl, upd_same, fun H13 k13 hR13 => ⟨rfl, ?_⟩⟩
      have s13 : Same H12 H13 := Same.made ny ndy k13
      refine ⟨(by show 3 ≤ sizeLine; decide), fun T nT => ?_⟩
      have sT := s13.trans (same_upd (o := .lst [.non, .int 3, .ref y]) nT)
      have eT : upd H13 T (.lst [.non, .int 3, .ref y]) T = some (.lst [.non, .int 3, .ref y]) := upd_same
      have hR14 := same_upd (o := .lst [.non, .int 3, .ref y]) nT _ _ hR13
      generalize upd H13 T _ = H14 at sT eT hR14 ⊢
      have I14 := I12.same sT
      obtain ⟨_, _, ep14⟩ := id I14.d.p_
      have TD : T ≠ p := fun z => by rw [z, ep14] at eT; cases eT
      refine ⟨_, rfl, p, l, rs, 102 * i + 50 + 50 + 1, 3, rfl, I14.d, by omega, by decide, fun H15 j k15 D15 hj => ?_⟩
      have I15 := I14.draw k15 D15
      have lw15 := Lw.draw I14 (lw12.same sT) k15
      have lv15 := Lw.draw I14 (lv12.same sT) k15
      have pt15 := Pt.drawK I14 (pt12.same sT) k15
      have eT15 := k15 _ _ eT TD
      have hy15 : Has A H15 (.ref y) (.obj 2) := ⟨y, dy, rfl, k15 _ _ hR14 fun z => by rw [z, ep14] at hR14; cases hR14⟩
      have fk : ∀ S : St, ∀ q : Dv, (kindD S q ≠ "text" ∧ kindD S q ≠ "any") → fits S q "text" = false := fun S q h => by
        unfold fits
        rw [decide_eq_false (show ¬ ("text" : Str) = "any" by decide +kernel), decide_eq_false (show ¬ ("text" : Str) = kindD S q from fun z => h.1 z.symm)]
        rfl
      have kn : (("null" : Str) ≠ "text" ∧ ("null" : Str) ≠ "any") ∧ (("integer" : Str) ≠ "text" ∧ ("integer" : Str) ≠ "any") ∧ ("list" : Str) ≠ "text" ∧ ("list" : Str) ≠ "any" := by decide +kernel
      obtain ⟨v, d, hv, hvd, okd, fd0⟩ : ∃ (v : V) (d : Dv), ([.non, .int 3, .ref y] : List V)[j]? = some v ∧ Has A H15 v d ∧ okV S12 d ∧ fits S12 d "text" = false := by
        match j, hj with
        | 0, _ => exact ⟨_, .non, rfl, rfl, trivial, fk S12 _ kn.1⟩
        | 1, _ => exact ⟨_, .int 3, rfl, rfl, trivial, fk S12 _ kn.2.1⟩
        | 2, _ => exact ⟨_, .obj 2, rfl, hy15, (show 2 < S12.things.length by omega), fk S12 _ (by rw [parts_kind t2]; exact kn.2.2)⟩
      refine ⟨T, _, _, v, rfl, rfl, SqL.of eT15, atI_nat hv, (by show 1 ≤ sizeLine; decide), fun l2 nl2 => ?_⟩
      have sl := same_upd (o := .lst [v]) nl2
      refine ⟨a12, S12, 1, x, m, ds, l2, [v], .bad d, by rw [e12]; rfl, pt15.same sl, SqL.of upd_same, ⟨hvd.sv (Same.sv sl), trivial⟩, dd.1, ⟨okd, fd0, fun H16 t16 s16 tl16 => ?_⟩⟩
      refine ⟨(by show 2 ≤ sizeLine; decide), fun l3 nl3 => ⟨_, _, .lst (SqL.of ((same_upd nl3) _ _ tl16)) (.cons (.str _) (.cons (.str _) .nil)), .lst (SqL.of upd_same) (.cons (.str _) (.cons (.str _) .nil)), by decide +kernel, by decide +kernel, _, rfl, ifF (by decide +kernel) ?_⟩⟩
      have s17 := (sl.trans s16).trans (same_upd (o := .lst [.str "KindError", .str "wrong argument"]) nl3)
      generalize upd H16 l3 _ = H17 at s17 ⊢
      have I17 := I15.same s17
      have lw17 := lw15.same s17
      have lv17 := lv15.same s17
      have pt17 := pt15.same s17
      clear I12 I14 I15 lw12 lv12 lw15 lv15 pt12 pt15 eT eT15 hy15 hvd
      refine ⟨_, rfl, _, rfl, a12, S12, 1, x, m, r, us, ds, by rw [e12]; rfl, pt17, lw17, dd.1, fun d hd => okP_V n3 (dd.2.1 d hd), dd.2.2, fun H18 a18 m18 gs ev18 perm pt18 => ⟨_, rfl, iteF ?_⟩⟩
      have I18 := I17.ev ev18 pt18.sm
      have lv18 := lv17.ev L I17.sm ev18
      have e18 : a18.s = sa.s := ev18.s.trans e12
      have gl : gs.length ≤ 1000 := by rw [perm.length_eq]; exact dd.1
      have t218 : (S12.put 1 gs).things[2]? = some (.parts es) := by
        show (S12.things.set 1 _)[2]? = _
        rw [List.getElem?_set_ne (by decide)]
        exact t2
      obtain ⟨dxa, vsa, c1a, c2a, c3a⟩ := pt18.at_
      obtain ⟨dSa, hSa⟩ := I18.sm.s_
      rw [e18] at hSa
      have axa : atI (a18.X.map V.ref) 1 = some (.ref x) := atI_nat (j := 1) (by rw [List.getElem?_map, pt18.x_]; rfl)
      refine ⟨_, rfl, sa.s, A.Store, dSa, _, _, rfl, hSa, L.c_Store.cl, L.n_Store_things, st_things _ _ _ _, a18.t, _, _, .ref x, rfl, rfl, SqL.of I18.sm.t_, axa, x, A.Parts, dxa, _, _, rfl, c1a, L.c_Parts.cl, L.n_Parts_held, lk_hit, _, vsa, rfl, .inl (SqL.of c2a), fun Ga nGa => ?_⟩
      have sHa := same_upd (o := .lst vsa) nGa
      have I19 := I18.same sHa
      have lv19 := lv18.same sHa
      have pt19 := pt18.same sHa
      have lw19 : Lw P w A (upd H18 Ga (.lst vsa)) a18 Ga vsa gs := Lw.new L I18.sm nGa upd_same (c3a.imp fun _ _ h => h.sv (Same.sv sHa))
      generalize upd H18 Ga _ = H19 at I19 lv19 pt19 lw19 ⊢
      refine ⟨_, rfl, _, rfl, _, rfl, a18, S12.put 1 gs, 1, 2, x, m18, Ga, r2, vsa, us2, gs, es, by rw [e18]; rfl, pt19, t218, lw19, lv19, gl, de.1, fun H20 a20 m20 fs ev20 hfs pt20 => ⟨_, rfl, iteF ?_⟩⟩
      have I20 := I19.ev ev20 pt20.sm
      have lv20 := lv19.ev L I19.sm ev20
      have e20 : a20.s = sa.s := ev20.s.trans e18
      have fl : fs.length ≤ 1000 := by
        rw [hfs]
        split
        · rw [List.length_append]; omega
        · exact gl
      have t220 : ((S12.put 1 gs).put 1 fs).things[2]? = some (.parts es) := by
        show ((S12.put 1 gs).things.set 1 _)[2]? = _
        rw [List.getElem?_set_ne (by decide)]
        exact t218
      obtain ⟨x2b, m2b, hx2b, hm2b, dx2b, vs2b, b1b, b2b, b3b⟩ := I20.sm.get t220
      obtain ⟨dS2b, hS2b⟩ := I20.sm.s_
      rw [e20] at hS2b
      have ax2b : atI (a20.X.map V.ref) 2 = some (.ref x2b) := atI_nat (j := 2) (by rw [List.getElem?_map, hx2b]; rfl)
      refine ⟨_, rfl, sa.s, A.Store, dS2b, _, _, rfl, hS2b, L.c_Store.cl, L.n_Store_things, st_things _ _ _ _, a20.t, _, _, .ref x2b, rfl, rfl, SqL.of I20.sm.t_, ax2b, x2b, A.Parts, dx2b, _, _, rfl, b1b, L.c_Parts.cl, L.n_Parts_held, lk_hit, _, rfl, m2b, r2, vs2b, us2, es, es, rfl, SqL.of b2b, SqL.of lv20.r_, b3b, lv20.h_, Nat.le_trans de.1 (by decide), _, rfl, ?_⟩
      rw [decide_eq_true rfl]
      refine iteF ?_
      obtain ⟨dxc, vsc, c1c, c2c, c3c⟩ := pt20.at_
      obtain ⟨dSc, hSc⟩ := I20.sm.s_
      rw [e20] at hSc
      have axc : atI (a20.X.map V.ref) 1 = some (.ref x) := atI_nat (j := 1) (by rw [List.getElem?_map, pt20.x_]; rfl)
      refine ⟨_, rfl, sa.s, A.Store, dSc, _, _, rfl, hSc, L.c_Store.cl, L.n_Store_things, st_things _ _ _ _, a20.t, _, _, .ref x, rfl, rfl, SqL.of I20.sm.t_, axc, x, A.Parts, dxc, _, _, rfl, c1c, L.c_Parts.cl, L.n_Parts_held, lk_hit, _, vsc, rfl, .inl (SqL.of c2c), fun Gc nGc => ?_⟩
      have sHc := same_upd (o := .lst vsc) nGc
      have I21 := I20.same sHc
      have pt21 := pt20.same sHc
      have lw21 : Lw P w A (upd H20 Gc (.lst vsc)) a20 Gc vsc fs := Lw.new L I20.sm nGc upd_same (c3c.imp fun _ _ h => h.sv (Same.sv sHc))
      generalize upd H20 Gc _ = H21 at I21 pt21 lw21 ⊢
      refine ⟨_, rfl, Gc, vsc, rfl, .inl (SqL.of lw21.r_), _, _, rfl, rfl, _, rfl, ite2 (fun h20 => ?_) fun h20 => ?_⟩
      · refine ⟨_, rfl, _, rfl, _, rfl, a20, (S12.put 1 gs).put 1 fs, 1, 1, x, m20, Gc, Gc, vsc, vsc, fs, fs, by rw [e20]; rfl, pt21, pt21.th, lw21, lw21, fl, fl, fun H22 a22 m22 ks ev22 _ pt22 => ⟨_, rfl, iteF ?_⟩⟩
        exact ⟨_, _, _, _, _, rfl, (I21.ev ev22 pt22.sm).d.le (by omega) (by omega)⟩
      · exact ⟨_, _, _, _, _, rfl, I21.d.le (by omega) (by omega)⟩
    · rintro σ H3 _
      exact q H3
end
end My
namespace My
open PySem L2 SX XT XS XE XD XL XZ
set_option maxHeartbeats 0 in
theorem all_mk {l : PySem.W.OpenLaw} {w : World} {K : PySem.W.Frag} {h : Heap} {mg : Str → Option Value} {fa cRef cBuiltin cParts cTable cInstance cKin cForm cStore cLivequillError cScriptError fScriptError cdaScriptError ccScriptError a_kind_of a_kind_of_thing a_is_key a_check_size a_is_bounded a_checked_integer a_check_count a_check_arguments a_check_kind a_check_alike a_refuse_field a_make_list a_quoted a_write_value a_text_of a_write a_write_around a_write_held a_held_by a_plain_form a_join a_joined a_sort a_extend a_total a_pair_up a_make_pairs a_call_method a_method_for a_law_rows a_law_draw a_law_greatest a_law_integer a_law_word a_law_part a_law_parts a_law_call a_law_kind a_law_same a_law_ordered a_law_joined a_law_join a_law_sum a_law_zip a_law_sort a_law_extend a_law a_Ref_init a_Ref_eq a_Builtin_init a_Builtin_eq a_Parts_init a_Table_pairs a_Kin_init a_Form_init a_Form_add a_Form_is_enough a_Store_init a_Store_make a_Store_at aLM tA0 qA0 tA1 qA1 tA2 qA2 tA3 qA3 tA4 qA4 : Addr} (X : K.In h) (G : h.Ns mainGlobals mg) (hfa : mg "law" = some (.ref fa))
    {nmScriptError qScriptError flScriptError : Str}
    {NScriptError : Addr}
    {bsScriptError subScriptError : List Value}
    {snScriptError : List Str}
    {abScriptError : Bool}
    {colScriptError : Option Bool}
    {ddScriptError odScriptError anScriptError cddScriptError cldScriptError odf_kind_of anf_kind_of odf_kind_of_thing anf_kind_of_thing odf_is_key anf_is_key odf_check_size anf_check_size odf_is_bounded anf_is_bounded odf_checked_integer anf_checked_integer odf_check_count anf_check_count odf_check_arguments anf_check_arguments odf_check_kind anf_check_kind odf_check_alike anf_check_alike odf_refuse_field anf_refuse_field odf_make_list anf_make_list odf_quoted anf_quoted odf_write_value anf_write_value odf_text_of anf_text_of odf_write anf_write odf_write_around anf_write_around odf_write_held anf_write_held odf_held_by anf_held_by odf_plain_form anf_plain_form odf_join anf_join odf_joined anf_joined odf_sort anf_sort odf_extend anf_extend odf_total anf_total odf_pair_up anf_pair_up odf_make_pairs anf_make_pairs odf_call_method anf_call_method odf_method_for anf_method_for odf_law_rows anf_law_rows odf_law_draw anf_law_draw odf_law_greatest anf_law_greatest odf_law_integer anf_law_integer odf_law_word anf_law_word odf_law_part anf_law_part odf_law_parts anf_law_parts odf_law_call anf_law_call odf_law_kind anf_law_kind odf_law_same anf_law_same odf_law_ordered anf_law_ordered odf_law_joined anf_law_joined odf_law_join anf_law_join odf_law_sum anf_law_sum odf_law_zip anf_law_zip odf_law_sort anf_law_sort odf_law_extend anf_law_extend odlaw anlaw odf_Ref_init anf_Ref_init odf_Ref_eq anf_Ref_eq odf_Builtin_init anf_Builtin_init odf_Builtin_eq anf_Builtin_eq odf_Parts_init anf_Parts_init odf_Table_pairs anf_Table_pairs odf_Kin_init anf_Kin_init odf_Form_init anf_Form_init odf_Form_add anf_Form_add odf_Form_is_enough anf_Form_is_enough odf_Store_init anf_Store_init odf_Store_make anf_Store_make odf_Store_at anf_Store_at tD0 qD0 tD1 qD1 tD2 qD2 tD3 qD3 tD4 qD4 : Option Addr}
    {m0ScriptError m1ScriptError m2ScriptError m3ScriptError m5ScriptError : Option Value}
    {slScriptError ccsScriptError cslScriptError slf_kind_of slf_kind_of_thing slf_is_key slf_check_size slf_is_bounded slf_checked_integer slf_check_count slf_check_arguments slf_check_kind slf_check_alike slf_refuse_field slf_make_list slf_quoted slf_write_value slf_text_of slf_write slf_write_around slf_write_held slf_held_by slf_plain_form slf_join slf_joined slf_sort slf_extend slf_total slf_pair_up slf_make_pairs slf_call_method slf_method_for slf_law_rows slf_law_draw slf_law_greatest slf_law_integer slf_law_word slf_law_part slf_law_parts slf_law_call slf_law_kind slf_law_same slf_law_ordered slf_law_joined slf_law_join slf_law_sum slf_law_zip slf_law_sort slf_law_extend sllaw slf_Ref_init slf_Ref_eq slf_Builtin_init slf_Builtin_eq slf_Parts_init slf_Table_pairs slf_Kin_init slf_Form_init slf_Form_add slf_Form_is_enough slf_Store_init slf_Store_make slf_Store_at tO0 qO0 tO1 qO1 tO2 qO2 tO3 qO3 tO4 qO4 : Array (Option Value)}
    {ocScriptError kVScriptError dcScriptError pmScriptError ctScriptError cclScriptError cl_ScriptError ocf_kind_of kVf_kind_of dcf_kind_of pmf_kind_of cdf_kind_of ctf_kind_of ocf_kind_of_thing kVf_kind_of_thing dcf_kind_of_thing pmf_kind_of_thing cdf_kind_of_thing ctf_kind_of_thing ocf_is_key kVf_is_key dcf_is_key pmf_is_key cdf_is_key ctf_is_key ocf_check_size kVf_check_size dcf_check_size pmf_check_size cdf_check_size ctf_check_size ocf_is_bounded kVf_is_bounded dcf_is_bounded pmf_is_bounded cdf_is_bounded ctf_is_bounded ocf_checked_integer kVf_checked_integer dcf_checked_integer pmf_checked_integer cdf_checked_integer ctf_checked_integer ocf_check_count kVf_check_count dcf_check_count pmf_check_count cdf_check_count ctf_check_count ocf_check_arguments kVf_check_arguments dcf_check_arguments pmf_check_arguments cdf_check_arguments ctf_check_arguments ocf_check_kind kVf_check_kind dcf_check_kind pmf_check_kind cdf_check_kind ctf_check_kind ocf_check_alike kVf_check_alike dcf_check_alike pmf_check_alike cdf_check_alike ctf_check_alike ocf_refuse_field kVf_refuse_field dcf_refuse_field pmf_refuse_field cdf_refuse_field ctf_refuse_field ocf_make_list kVf_make_list dcf_make_list pmf_make_list cdf_make_list ctf_make_list ocf_quoted kVf_quoted dcf_quoted pmf_quoted cdf_quoted ctf_quoted ocf_write_value kVf_write_value dcf_write_value pmf_write_value cdf_write_value ctf_write_value ocf_text_of kVf_text_of dcf_text_of pmf_text_of cdf_text_of ctf_text_of ocf_write kVf_write dcf_write pmf_write cdf_write ctf_write ocf_write_around kVf_write_around dcf_write_around pmf_write_around cdf_write_around ctf_write_around ocf_write_held kVf_write_held dcf_write_held pmf_write_held cdf_write_held ctf_write_held ocf_held_by kVf_held_by dcf_held_by pmf_held_by cdf_held_by ctf_held_by ocf_plain_form kVf_plain_form dcf_plain_form pmf_plain_form cdf_plain_form ctf_plain_form ocf_join kVf_join dcf_join pmf_join cdf_join ctf_join ocf_joined kVf_joined dcf_joined pmf_joined cdf_joined ctf_joined ocf_sort kVf_sort dcf_sort pmf_sort cdf_sort ctf_sort ocf_extend kVf_extend dcf_extend pmf_extend cdf_extend ctf_extend ocf_total kVf_total dcf_total pmf_total cdf_total ctf_total ocf_pair_up kVf_pair_up dcf_pair_up pmf_pair_up cdf_pair_up ctf_pair_up ocf_make_pairs kVf_make_pairs dcf_make_pairs pmf_make_pairs cdf_make_pairs ctf_make_pairs ocf_call_method kVf_call_method dcf_call_method pmf_call_method cdf_call_method ctf_call_method ocf_method_for kVf_method_for dcf_method_for pmf_method_for cdf_method_for ctf_method_for ocf_law_rows kVf_law_rows dcf_law_rows pmf_law_rows cdf_law_rows ctf_law_rows ocf_law_draw kVf_law_draw dcf_law_draw pmf_law_draw cdf_law_draw ctf_law_draw ocf_law_greatest kVf_law_greatest dcf_law_greatest pmf_law_greatest cdf_law_greatest ctf_law_greatest ocf_law_integer kVf_law_integer dcf_law_integer pmf_law_integer cdf_law_integer ctf_law_integer ocf_law_word kVf_law_word dcf_law_word pmf_law_word cdf_law_word ctf_law_word ocf_law_part kVf_law_part dcf_law_part pmf_law_part cdf_law_part ctf_law_part ocf_law_parts kVf_law_parts dcf_law_parts pmf_law_parts cdf_law_parts ctf_law_parts ocf_law_call kVf_law_call dcf_law_call pmf_law_call cdf_law_call ctf_law_call ocf_law_kind kVf_law_kind dcf_law_kind pmf_law_kind cdf_law_kind ctf_law_kind ocf_law_same kVf_law_same dcf_law_same pmf_law_same cdf_law_same ctf_law_same ocf_law_ordered kVf_law_ordered dcf_law_ordered pmf_law_ordered cdf_law_ordered ctf_law_ordered ocf_law_joined kVf_law_joined dcf_law_joined pmf_law_joined cdf_law_joined ctf_law_joined ocf_law_join kVf_law_join dcf_law_join pmf_law_join cdf_law_join ctf_law_join ocf_law_sum kVf_law_sum dcf_law_sum pmf_law_sum cdf_law_sum ctf_law_sum ocf_law_zip kVf_law_zip dcf_law_zip pmf_law_zip cdf_law_zip ctf_law_zip ocf_law_sort kVf_law_sort dcf_law_sort pmf_law_sort cdf_law_sort ctf_law_sort ocf_law_extend kVf_law_extend dcf_law_extend pmf_law_extend cdf_law_extend ctf_law_extend oclaw kVlaw dclaw pmlaw cdlaw ctlaw ocf_Ref_init kVf_Ref_init dcf_Ref_init pmf_Ref_init cdf_Ref_init ctf_Ref_init ocf_Ref_eq kVf_Ref_eq dcf_Ref_eq pmf_Ref_eq cdf_Ref_eq ctf_Ref_eq ocf_Builtin_init kVf_Builtin_init dcf_Builtin_init pmf_Builtin_init cdf_Builtin_init ctf_Builtin_init ocf_Builtin_eq kVf_Builtin_eq dcf_Builtin_eq pmf_Builtin_eq cdf_Builtin_eq ctf_Builtin_eq ocf_Parts_init kVf_Parts_init dcf_Parts_init pmf_Parts_init cdf_Parts_init ctf_Parts_init ocf_Table_pairs kVf_Table_pairs dcf_Table_pairs pmf_Table_pairs cdf_Table_pairs ctf_Table_pairs ocf_Kin_init kVf_Kin_init dcf_Kin_init pmf_Kin_init cdf_Kin_init ctf_Kin_init ocf_Form_init kVf_Form_init dcf_Form_init pmf_Form_init cdf_Form_init ctf_Form_init ocf_Form_add kVf_Form_add dcf_Form_add pmf_Form_add cdf_Form_add ctf_Form_add ocf_Form_is_enough kVf_Form_is_enough dcf_Form_is_enough pmf_Form_is_enough cdf_Form_is_enough ctf_Form_is_enough ocf_Store_init kVf_Store_init dcf_Store_init pmf_Store_init cdf_Store_init ctf_Store_init ocf_Store_make kVf_Store_make dcf_Store_make pmf_Store_make cdf_Store_make ctf_Store_make ocf_Store_at kVf_Store_at dcf_Store_at pmf_Store_at cdf_Store_at ctf_Store_at : Value}
    {cvsScriptError tI0 qI0 tI1 qI1 tI2 qI2 tI3 qI3 tI4 qI4 : Array Value}
    {tfScriptError tkMOST_HELD tkDOUBTFUL_BITS tkMOST_AROUND : Tok}
    {esLM : Array DictEntry}
    {nnLM tN0 qN0 tN1 qN1 tN2 qN2 tN3 qN3 tN4 qN4 : Nat}
    (uRef : PySem.W.nsIn K mainGlobals "Ref" = some (some (.ref cRef)))
    (mkRef : PySem.W.makesIn K cRef = true)
    (kcRef : PySem.W.keepIn K (.ref cRef) = true)
    (pgRef : PySem.W.plainGet K cRef Str.empty = true)
    (hdRef : PySem.W.hasDictIn K cRef = true)
    (poRef : PySem.W.plainOver K cRef = true)
    (saRef : PySem.W.findIn K (.ref cRef) "__setattr__" = some (some (.builtin "object.__setattr__")))
    (nRef_number : PySem.W.findIn K (.ref cRef) "number" = some none)
    (hnTy : PySem.W.specialIn K (.builtin "object.__class__") "__get__" = some (some (.builtin "getset_descriptor.__get__")))
    (htTy : PySem.W.takesIn K (.builtin "object.__class__") = some true)
    (haRef : PySem.W.findIn K (.ref cRef) "__class__" = some (some (.builtin "object.__class__")))
    (hmRef : PySem.W.mroIn K cRef (.type "object") = some true)
    (uBuiltin : PySem.W.nsIn K mainGlobals "Builtin" = some (some (.ref cBuiltin)))
    (mkBuiltin : PySem.W.makesIn K cBuiltin = true)
    (kcBuiltin : PySem.W.keepIn K (.ref cBuiltin) = true)
    (pgBuiltin : PySem.W.plainGet K cBuiltin Str.empty = true)
    (hdBuiltin : PySem.W.hasDictIn K cBuiltin = true)
    (poBuiltin : PySem.W.plainOver K cBuiltin = true)
    (saBuiltin : PySem.W.findIn K (.ref cBuiltin) "__setattr__" = some (some (.builtin "object.__setattr__")))
    (nBuiltin_name : PySem.W.findIn K (.ref cBuiltin) "name" = some none)
    (haBuiltin : PySem.W.findIn K (.ref cBuiltin) "__class__" = some (some (.builtin "object.__class__")))
    (hmBuiltin : PySem.W.mroIn K cBuiltin (.type "object") = some true)
    (uParts : PySem.W.nsIn K mainGlobals "Parts" = some (some (.ref cParts)))
    (mkParts : PySem.W.makesIn K cParts = true)
    (kcParts : PySem.W.keepIn K (.ref cParts) = true)
    (pgParts : PySem.W.plainGet K cParts Str.empty = true)
    (hdParts : PySem.W.hasDictIn K cParts = true)
    (poParts : PySem.W.plainOver K cParts = true)
    (saParts : PySem.W.findIn K (.ref cParts) "__setattr__" = some (some (.builtin "object.__setattr__")))
    (nParts_held : PySem.W.findIn K (.ref cParts) "held" = some none)
    (haParts : PySem.W.findIn K (.ref cParts) "__class__" = some (some (.builtin "object.__class__")))
    (hmParts : PySem.W.mroIn K cParts (.type "object") = some true)
    (uTable : PySem.W.nsIn K mainGlobals "Table" = some (some (.ref cTable)))
    (mkTable : PySem.W.makesIn K cTable = true)
    (kcTable : PySem.W.keepIn K (.ref cTable) = true)
    (pgTable : PySem.W.plainGet K cTable Str.empty = true)
    (hdTable : PySem.W.hasDictIn K cTable = true)
    (poTable : PySem.W.plainOver K cTable = true)
    (saTable : PySem.W.findIn K (.ref cTable) "__setattr__" = some (some (.builtin "object.__setattr__")))
    (nTable__entries : PySem.W.findIn K (.ref cTable) "_entries" = some none)
    (haTable : PySem.W.findIn K (.ref cTable) "__class__" = some (some (.builtin "object.__class__")))
    (hmTable : PySem.W.mroIn K cTable (.type "object") = some true)
    (uInstance : PySem.W.nsIn K mainGlobals "Instance" = some (some (.ref cInstance)))
    (mkInstance : PySem.W.makesIn K cInstance = true)
    (kcInstance : PySem.W.keepIn K (.ref cInstance) = true)
    (pgInstance : PySem.W.plainGet K cInstance Str.empty = true)
    (hdInstance : PySem.W.hasDictIn K cInstance = true)
    (poInstance : PySem.W.plainOver K cInstance = true)
    (saInstance : PySem.W.findIn K (.ref cInstance) "__setattr__" = some (some (.builtin "object.__setattr__")))
    (nInstance_owner : PySem.W.findIn K (.ref cInstance) "owner" = some none)
    (haInstance : PySem.W.findIn K (.ref cInstance) "__class__" = some (some (.builtin "object.__class__")))
    (hmInstance : PySem.W.mroIn K cInstance (.type "object") = some true)
    (uKin : PySem.W.nsIn K mainGlobals "Kin" = some (some (.ref cKin)))
    (mkKin : PySem.W.makesIn K cKin = true)
    (kcKin : PySem.W.keepIn K (.ref cKin) = true)
    (pgKin : PySem.W.plainGet K cKin Str.empty = true)
    (hdKin : PySem.W.hasDictIn K cKin = true)
    (poKin : PySem.W.plainOver K cKin = true)
    (saKin : PySem.W.findIn K (.ref cKin) "__setattr__" = some (some (.builtin "object.__setattr__")))
    (nKin_name : PySem.W.findIn K (.ref cKin) "name" = some none)
    (nKin_parent : PySem.W.findIn K (.ref cKin) "parent" = some none)
    (nKin_methods : PySem.W.findIn K (.ref cKin) "methods" = some none)
    (haKin : PySem.W.findIn K (.ref cKin) "__class__" = some (some (.builtin "object.__class__")))
    (hmKin : PySem.W.mroIn K cKin (.type "object") = some true)
    (uForm : PySem.W.nsIn K mainGlobals "Form" = some (some (.ref cForm)))
    (mkForm : PySem.W.makesIn K cForm = true)
    (kcForm : PySem.W.keepIn K (.ref cForm) = true)
    (pgForm : PySem.W.plainGet K cForm Str.empty = true)
    (hdForm : PySem.W.hasDictIn K cForm = true)
    (poForm : PySem.W.plainOver K cForm = true)
    (saForm : PySem.W.findIn K (.ref cForm) "__setattr__" = some (some (.builtin "object.__setattr__")))
    (nForm_store : PySem.W.findIn K (.ref cForm) "store" = some none)
    (nForm_most : PySem.W.findIn K (.ref cForm) "most" = some none)
    (nForm_pieces : PySem.W.findIn K (.ref cForm) "pieces" = some none)
    (nForm_size : PySem.W.findIn K (.ref cForm) "size" = some none)
    (nForm_around : PySem.W.findIn K (.ref cForm) "around" = some none)
    (haForm : PySem.W.findIn K (.ref cForm) "__class__" = some (some (.builtin "object.__class__")))
    (hmForm : PySem.W.mroIn K cForm (.type "object") = some true)
    (uStore : PySem.W.nsIn K mainGlobals "Store" = some (some (.ref cStore)))
    (mkStore : PySem.W.makesIn K cStore = true)
    (kcStore : PySem.W.keepIn K (.ref cStore) = true)
    (pgStore : PySem.W.plainGet K cStore Str.empty = true)
    (hdStore : PySem.W.hasDictIn K cStore = true)
    (poStore : PySem.W.plainOver K cStore = true)
    (saStore : PySem.W.findIn K (.ref cStore) "__setattr__" = some (some (.builtin "object.__setattr__")))
    (nStore_things : PySem.W.findIn K (.ref cStore) "things" = some none)
    (nStore_output : PySem.W.findIn K (.ref cStore) "output" = some none)
    (nStore_lines : PySem.W.findIn K (.ref cStore) "lines" = some none)
    (nStore_taken : PySem.W.findIn K (.ref cStore) "taken" = some none)
    (haStore : PySem.W.findIn K (.ref cStore) "__class__" = some (some (.builtin "object.__class__")))
    (hmStore : PySem.W.mroIn K cStore (.type "object") = some true)
    (uLivequillError : PySem.W.nsIn K mainGlobals "LivequillError" = some (some (.ref cLivequillError)))
    (uScriptError : PySem.W.nsIn K mainGlobals "ScriptError" = some (some (.ref cScriptError)))
    (xScriptError : K.lookup cScriptError = some (excClassObj nmScriptError qScriptError cScriptError NScriptError bsScriptError [.ref cLivequillError, .type "ValueError", .type "Exception", .type "BaseException", .type "object"] true snScriptError subScriptError abScriptError colScriptError ddScriptError m0ScriptError m1ScriptError m2ScriptError m3ScriptError m5ScriptError "ValueError.__new__"))
    (saScriptError : PySem.W.findIn K (.ref cScriptError) "__setattr__" = some (some (.builtin "object.__setattr__")))
    (exScriptError : PySem.W.subIn K (.ref cScriptError) (.type "BaseException") = some true)
    (tpScriptError : PySem.W.typeIn K (.ref cScriptError) = some (.type "type"))
    (kpScriptError : PySem.W.keepIn K (.ref cScriptError) = true)
    (n1ScriptError : PySem.W.findIn K (.ref cScriptError) "kind" = some none)
    (n2ScriptError : PySem.W.findIn K (.ref cScriptError) "message" = some none)
    (iScriptError : PySem.W.findIn K (.ref cScriptError) "__init__" = some (some (.ref fScriptError)))
    (tiScriptError : PySem.W.typeIn K (.ref fScriptError) = some (.type "function"))
    (gaScriptError : PySem.W.findIn K (.ref cScriptError) "__getattribute__" = some (some (.builtin "BaseException.__getattribute__")))
    (ggScriptError : PySem.W.findIn K (.ref cScriptError) "__getattr__" = some none)
    (hdScriptError : PySem.W.hasDictIn K cScriptError = true)
    (ssScriptError : PySem.W.subIn K (.ref cScriptError) (.ref cScriptError) = some true)
    (liScriptError : K.lookup fScriptError = some ⟨ocScriptError, odScriptError, .func (PySem.W.ksFn "__init__" "ScriptError.__init__" (defArgs sx_ScriptError) (defBody sx_ScriptError) (defScope sx_ScriptError) .none kVScriptError dcScriptError pmScriptError anScriptError (.ref cdaScriptError) ctScriptError ccScriptError), slScriptError⟩)
    (ciScriptError : PySem.W.codeIn K (.ref cdaScriptError) "ScriptError.__init__" = true)
    (coScriptError : K.lookup cdaScriptError = some ⟨cclScriptError, cddScriptError, .fields cvsScriptError, ccsScriptError⟩)
    (cvScriptError : cvsScriptError[2]? = some (.str flScriptError tfScriptError))
    (fiScriptError : ((l.prog.main.file : Str) == flScriptError) = true)
    (ceScriptError : K.lookup ccScriptError = some ⟨cl_ScriptError, cldScriptError, .cell (some (.ref cScriptError)), cslScriptError⟩)
    (toSup : (l.prog.main.scope.names.lookup ("super" : Str)).isSome = false)
    (suSup : PySem.W.nsIn K mainGlobals "super" = some none)
    (opSup : PySem.W.nsIn K PySem.cStatics "thirdparty.any" = some none)
    (mrScriptError : PySem.W.mroIn K cScriptError (.ref cScriptError) = some true)
    (ksScriptError : PySem.W.ks_superIn K cScriptError cScriptError "__init__" = some (some (.builtin "ValueError.__init__")))
    (vaScriptError : PySem.W.subIn K (.ref cScriptError) (.type "ValueError") = some true)
    (haScriptError : PySem.W.findIn K (.ref cScriptError) "__class__" = some (some (.builtin "object.__class__")))
    (hmScriptError : PySem.W.mroIn K cScriptError (.type "object") = some true)
    (klScriptErrorLivequillError : PySem.W.kitOne K (.ref cScriptError) (.ref cLivequillError) = some true)
    (af_kind_of : PySem.W.nsIn K mainGlobals "kind_of" = some (some (.ref a_kind_of)))
    (lf_kind_of : K.lookup a_kind_of = some ⟨ocf_kind_of, odf_kind_of, .func (PySem.W.fnOf "kind_of" "kind_of" (defArgs s_kind_of) (defBody s_kind_of) (defScope s_kind_of) .none kVf_kind_of dcf_kind_of pmf_kind_of anf_kind_of cdf_kind_of ctf_kind_of), slf_kind_of⟩)
    (cf_kind_of : PySem.W.codeIn K cdf_kind_of "kind_of" = true)
    (kf_kind_of : PySem.W.keepIn K (.ref a_kind_of) = true)
    (af_kind_of_thing : PySem.W.nsIn K mainGlobals "kind_of_thing" = some (some (.ref a_kind_of_thing)))
    (lf_kind_of_thing : K.lookup a_kind_of_thing = some ⟨ocf_kind_of_thing, odf_kind_of_thing, .func (PySem.W.fnOf "kind_of_thing" "kind_of_thing" (defArgs s_kind_of_thing) (defBody s_kind_of_thing) (defScope s_kind_of_thing) .none kVf_kind_of_thing dcf_kind_of_thing pmf_kind_of_thing anf_kind_of_thing cdf_kind_of_thing ctf_kind_of_thing), slf_kind_of_thing⟩)
    (cf_kind_of_thing : PySem.W.codeIn K cdf_kind_of_thing "kind_of_thing" = true)
    (kf_kind_of_thing : PySem.W.keepIn K (.ref a_kind_of_thing) = true)
    (af_is_key : PySem.W.nsIn K mainGlobals "is_key" = some (some (.ref a_is_key)))
    (lf_is_key : K.lookup a_is_key = some ⟨ocf_is_key, odf_is_key, .func (PySem.W.fnOf "is_key" "is_key" (defArgs s_is_key) (defBody s_is_key) (defScope s_is_key) .none kVf_is_key dcf_is_key pmf_is_key anf_is_key cdf_is_key ctf_is_key), slf_is_key⟩)
    (cf_is_key : PySem.W.codeIn K cdf_is_key "is_key" = true)
    (kf_is_key : PySem.W.keepIn K (.ref a_is_key) = true)
    (af_check_size : PySem.W.nsIn K mainGlobals "check_size" = some (some (.ref a_check_size)))
    (lf_check_size : K.lookup a_check_size = some ⟨ocf_check_size, odf_check_size, .func (PySem.W.fnOf "check_size" "check_size" (defArgs s_check_size) (defBody s_check_size) (defScope s_check_size) .none kVf_check_size dcf_check_size pmf_check_size anf_check_size cdf_check_size ctf_check_size), slf_check_size⟩)
    (cf_check_size : PySem.W.codeIn K cdf_check_size "check_size" = true)
    (kf_check_size : PySem.W.keepIn K (.ref a_check_size) = true)
    (af_is_bounded : PySem.W.nsIn K mainGlobals "is_bounded" = some (some (.ref a_is_bounded)))
    (lf_is_bounded : K.lookup a_is_bounded = some ⟨ocf_is_bounded, odf_is_bounded, .func (PySem.W.fnOf "is_bounded" "is_bounded" (defArgs s_is_bounded) (defBody s_is_bounded) (defScope s_is_bounded) .none kVf_is_bounded dcf_is_bounded pmf_is_bounded anf_is_bounded cdf_is_bounded ctf_is_bounded), slf_is_bounded⟩)
    (cf_is_bounded : PySem.W.codeIn K cdf_is_bounded "is_bounded" = true)
    (kf_is_bounded : PySem.W.keepIn K (.ref a_is_bounded) = true)
    (af_checked_integer : PySem.W.nsIn K mainGlobals "checked_integer" = some (some (.ref a_checked_integer)))
    (lf_checked_integer : K.lookup a_checked_integer = some ⟨ocf_checked_integer, odf_checked_integer, .func (PySem.W.fnOf "checked_integer" "checked_integer" (defArgs s_checked_integer) (defBody s_checked_integer) (defScope s_checked_integer) .none kVf_checked_integer dcf_checked_integer pmf_checked_integer anf_checked_integer cdf_checked_integer ctf_checked_integer), slf_checked_integer⟩)
    (cf_checked_integer : PySem.W.codeIn K cdf_checked_integer "checked_integer" = true)
    (kf_checked_integer : PySem.W.keepIn K (.ref a_checked_integer) = true)
    (af_check_count : PySem.W.nsIn K mainGlobals "check_count" = some (some (.ref a_check_count)))
    (lf_check_count : K.lookup a_check_count = some ⟨ocf_check_count, odf_check_count, .func (PySem.W.fnOf "check_count" "check_count" (defArgs s_check_count) (defBody s_check_count) (defScope s_check_count) .none kVf_check_count dcf_check_count pmf_check_count anf_check_count cdf_check_count ctf_check_count), slf_check_count⟩)
    (cf_check_count : PySem.W.codeIn K cdf_check_count "check_count" = true)
    (kf_check_count : PySem.W.keepIn K (.ref a_check_count) = true)
    (af_check_arguments : PySem.W.nsIn K mainGlobals "check_arguments" = some (some (.ref a_check_arguments)))
    (lf_check_arguments : K.lookup a_check_arguments = some ⟨ocf_check_arguments, odf_check_arguments, .func (PySem.W.fnOf "check_arguments" "check_arguments" (defArgs s_check_arguments) (defBody s_check_arguments) (defScope s_check_arguments) .none kVf_check_arguments dcf_check_arguments pmf_check_arguments anf_check_arguments cdf_check_arguments ctf_check_arguments), slf_check_arguments⟩)
    (cf_check_arguments : PySem.W.codeIn K cdf_check_arguments "check_arguments" = true)
    (kf_check_arguments : PySem.W.keepIn K (.ref a_check_arguments) = true)
    (af_check_kind : PySem.W.nsIn K mainGlobals "check_kind" = some (some (.ref a_check_kind)))
    (lf_check_kind : K.lookup a_check_kind = some ⟨ocf_check_kind, odf_check_kind, .func (PySem.W.fnOf "check_kind" "check_kind" (defArgs s_check_kind) (defBody s_check_kind) (defScope s_check_kind) .none kVf_check_kind dcf_check_kind pmf_check_kind anf_check_kind cdf_check_kind ctf_check_kind), slf_check_kind⟩)
    (cf_check_kind : PySem.W.codeIn K cdf_check_kind "check_kind" = true)
    (kf_check_kind : PySem.W.keepIn K (.ref a_check_kind) = true)
    (af_check_alike : PySem.W.nsIn K mainGlobals "check_alike" = some (some (.ref a_check_alike)))
    (lf_check_alike : K.lookup a_check_alike = some ⟨ocf_check_alike, odf_check_alike, .func (PySem.W.fnOf "check_alike" "check_alike" (defArgs s_check_alike) (defBody s_check_alike) (defScope s_check_alike) .none kVf_check_alike dcf_check_alike pmf_check_alike anf_check_alike cdf_check_alike ctf_check_alike), slf_check_alike⟩)
    (cf_check_alike : PySem.W.codeIn K cdf_check_alike "check_alike" = true)
    (kf_check_alike : PySem.W.keepIn K (.ref a_check_alike) = true)
    (af_refuse_field : PySem.W.nsIn K mainGlobals "refuse_field" = some (some (.ref a_refuse_field)))
    (lf_refuse_field : K.lookup a_refuse_field = some ⟨ocf_refuse_field, odf_refuse_field, .func (PySem.W.fnOf "refuse_field" "refuse_field" (defArgs s_refuse_field) (defBody s_refuse_field) (defScope s_refuse_field) .none kVf_refuse_field dcf_refuse_field pmf_refuse_field anf_refuse_field cdf_refuse_field ctf_refuse_field), slf_refuse_field⟩)
    (cf_refuse_field : PySem.W.codeIn K cdf_refuse_field "refuse_field" = true)
    (kf_refuse_field : PySem.W.keepIn K (.ref a_refuse_field) = true)
    (af_make_list : PySem.W.nsIn K mainGlobals "make_list" = some (some (.ref a_make_list)))
    (lf_make_list : K.lookup a_make_list = some ⟨ocf_make_list, odf_make_list, .func (PySem.W.fnOf "make_list" "make_list" (defArgs s_make_list) (defBody s_make_list) (defScope s_make_list) .none kVf_make_list dcf_make_list pmf_make_list anf_make_list cdf_make_list ctf_make_list), slf_make_list⟩)
    (cf_make_list : PySem.W.codeIn K cdf_make_list "make_list" = true)
    (kf_make_list : PySem.W.keepIn K (.ref a_make_list) = true)
    (af_quoted : PySem.W.nsIn K mainGlobals "quoted" = some (some (.ref a_quoted)))
    (lf_quoted : K.lookup a_quoted = some ⟨ocf_quoted, odf_quoted, .func (PySem.W.fnOf "quoted" "quoted" (defArgs s_quoted) (defBody s_quoted) (defScope s_quoted) .none kVf_quoted dcf_quoted pmf_quoted anf_quoted cdf_quoted ctf_quoted), slf_quoted⟩)
    (cf_quoted : PySem.W.codeIn K cdf_quoted "quoted" = true)
    (kf_quoted : PySem.W.keepIn K (.ref a_quoted) = true)
    (af_write_value : PySem.W.nsIn K mainGlobals "write_value" = some (some (.ref a_write_value)))
    (lf_write_value : K.lookup a_write_value = some ⟨ocf_write_value, odf_write_value, .func (PySem.W.fnOf "write_value" "write_value" (defArgs s_write_value) (defBody s_write_value) (defScope s_write_value) .none kVf_write_value dcf_write_value pmf_write_value anf_write_value cdf_write_value ctf_write_value), slf_write_value⟩)
    (cf_write_value : PySem.W.codeIn K cdf_write_value "write_value" = true)
    (kf_write_value : PySem.W.keepIn K (.ref a_write_value) = true)
    (af_text_of : PySem.W.nsIn K mainGlobals "text_of" = some (some (.ref a_text_of)))
    (lf_text_of : K.lookup a_text_of = some ⟨ocf_text_of, odf_text_of, .func (PySem.W.fnOf "text_of" "text_of" (defArgs s_text_of) (defBody s_text_of) (defScope s_text_of) .none kVf_text_of dcf_text_of pmf_text_of anf_text_of cdf_text_of ctf_text_of), slf_text_of⟩)
    (cf_text_of : PySem.W.codeIn K cdf_text_of "text_of" = true)
    (kf_text_of : PySem.W.keepIn K (.ref a_text_of) = true)
    (af_write : PySem.W.nsIn K mainGlobals "write" = some (some (.ref a_write)))
    (lf_write : K.lookup a_write = some ⟨ocf_write, odf_write, .func (PySem.W.fnOf "write" "write" (defArgs s_write) (defBody s_write) (defScope s_write) .none kVf_write dcf_write pmf_write anf_write cdf_write ctf_write), slf_write⟩)
    (cf_write : PySem.W.codeIn K cdf_write "write" = true)
    (kf_write : PySem.W.keepIn K (.ref a_write) = true)
    (af_write_around : PySem.W.nsIn K mainGlobals "write_around" = some (some (.ref a_write_around)))
    (lf_write_around : K.lookup a_write_around = some ⟨ocf_write_around, odf_write_around, .func (PySem.W.fnOf "write_around" "write_around" (defArgs s_write_around) (defBody s_write_around) (defScope s_write_around) .none kVf_write_around dcf_write_around pmf_write_around anf_write_around cdf_write_around ctf_write_around), slf_write_around⟩)
    (cf_write_around : PySem.W.codeIn K cdf_write_around "write_around" = true)
    (kf_write_around : PySem.W.keepIn K (.ref a_write_around) = true)
    (af_write_held : PySem.W.nsIn K mainGlobals "write_held" = some (some (.ref a_write_held)))
    (lf_write_held : K.lookup a_write_held = some ⟨ocf_write_held, odf_write_held, .func (PySem.W.fnOf "write_held" "write_held" (defArgs s_write_held) (defBody s_write_held) (defScope s_write_held) .none kVf_write_held dcf_write_held pmf_write_held anf_write_held cdf_write_held ctf_write_held), slf_write_held⟩)
    (cf_write_held : PySem.W.codeIn K cdf_write_held "write_held" = true)
    (kf_write_held : PySem.W.keepIn K (.ref a_write_held) = true)
    (af_held_by : PySem.W.nsIn K mainGlobals "held_by" = some (some (.ref a_held_by)))
    (lf_held_by : K.lookup a_held_by = some ⟨ocf_held_by, odf_held_by, .func (PySem.W.fnOf "held_by" "held_by" (defArgs s_held_by) (defBody s_held_by) (defScope s_held_by) .none kVf_held_by dcf_held_by pmf_held_by anf_held_by cdf_held_by ctf_held_by), slf_held_by⟩)
    (cf_held_by : PySem.W.codeIn K cdf_held_by "held_by" = true)
    (kf_held_by : PySem.W.keepIn K (.ref a_held_by) = true)
    (af_plain_form : PySem.W.nsIn K mainGlobals "plain_form" = some (some (.ref a_plain_form)))
    (lf_plain_form : K.lookup a_plain_form = some ⟨ocf_plain_form, odf_plain_form, .func (PySem.W.fnOf "plain_form" "plain_form" (defArgs s_plain_form) (defBody s_plain_form) (defScope s_plain_form) .none kVf_plain_form dcf_plain_form pmf_plain_form anf_plain_form cdf_plain_form ctf_plain_form), slf_plain_form⟩)
    (cf_plain_form : PySem.W.codeIn K cdf_plain_form "plain_form" = true)
    (kf_plain_form : PySem.W.keepIn K (.ref a_plain_form) = true)
    (af_join : PySem.W.nsIn K mainGlobals "join" = some (some (.ref a_join)))
    (lf_join : K.lookup a_join = some ⟨ocf_join, odf_join, .func (PySem.W.fnOf "join" "join" (defArgs s_join) (defBody s_join) (defScope s_join) .none kVf_join dcf_join pmf_join anf_join cdf_join ctf_join), slf_join⟩)
    (cf_join : PySem.W.codeIn K cdf_join "join" = true)
    (kf_join : PySem.W.keepIn K (.ref a_join) = true)
    (af_joined : PySem.W.nsIn K mainGlobals "joined" = some (some (.ref a_joined)))
    (lf_joined : K.lookup a_joined = some ⟨ocf_joined, odf_joined, .func (PySem.W.fnOf "joined" "joined" (defArgs s_joined) (defBody s_joined) (defScope s_joined) .none kVf_joined dcf_joined pmf_joined anf_joined cdf_joined ctf_joined), slf_joined⟩)
    (cf_joined : PySem.W.codeIn K cdf_joined "joined" = true)
    (kf_joined : PySem.W.keepIn K (.ref a_joined) = true)
    (af_sort : PySem.W.nsIn K mainGlobals "sort" = some (some (.ref a_sort)))
    (lf_sort : K.lookup a_sort = some ⟨ocf_sort, odf_sort, .func (PySem.W.fnOf "sort" "sort" (defArgs s_sort) (defBody s_sort) (defScope s_sort) .none kVf_sort dcf_sort pmf_sort anf_sort cdf_sort ctf_sort), slf_sort⟩)
    (cf_sort : PySem.W.codeIn K cdf_sort "sort" = true)
    (kf_sort : PySem.W.keepIn K (.ref a_sort) = true)
    (af_extend : PySem.W.nsIn K mainGlobals "extend" = some (some (.ref a_extend)))
    (lf_extend : K.lookup a_extend = some ⟨ocf_extend, odf_extend, .func (PySem.W.fnOf "extend" "extend" (defArgs s_extend) (defBody s_extend) (defScope s_extend) .none kVf_extend dcf_extend pmf_extend anf_extend cdf_extend ctf_extend), slf_extend⟩)
    (cf_extend : PySem.W.codeIn K cdf_extend "extend" = true)
    (kf_extend : PySem.W.keepIn K (.ref a_extend) = true)
    (af_total : PySem.W.nsIn K mainGlobals "total" = some (some (.ref a_total)))
    (lf_total : K.lookup a_total = some ⟨ocf_total, odf_total, .func (PySem.W.fnOf "total" "total" (defArgs s_total) (defBody s_total) (defScope s_total) .none kVf_total dcf_total pmf_total anf_total cdf_total ctf_total), slf_total⟩)
    (cf_total : PySem.W.codeIn K cdf_total "total" = true)
    (kf_total : PySem.W.keepIn K (.ref a_total) = true)
    (af_pair_up : PySem.W.nsIn K mainGlobals "pair_up" = some (some (.ref a_pair_up)))
    (lf_pair_up : K.lookup a_pair_up = some ⟨ocf_pair_up, odf_pair_up, .func (PySem.W.fnOf "pair_up" "pair_up" (defArgs s_pair_up) (defBody s_pair_up) (defScope s_pair_up) .none kVf_pair_up dcf_pair_up pmf_pair_up anf_pair_up cdf_pair_up ctf_pair_up), slf_pair_up⟩)
    (cf_pair_up : PySem.W.codeIn K cdf_pair_up "pair_up" = true)
    (kf_pair_up : PySem.W.keepIn K (.ref a_pair_up) = true)
    (af_make_pairs : PySem.W.nsIn K mainGlobals "make_pairs" = some (some (.ref a_make_pairs)))
    (lf_make_pairs : K.lookup a_make_pairs = some ⟨ocf_make_pairs, odf_make_pairs, .func (PySem.W.fnOf "make_pairs" "make_pairs" (defArgs s_make_pairs) (defBody s_make_pairs) (defScope s_make_pairs) .none kVf_make_pairs dcf_make_pairs pmf_make_pairs anf_make_pairs cdf_make_pairs ctf_make_pairs), slf_make_pairs⟩)
    (cf_make_pairs : PySem.W.codeIn K cdf_make_pairs "make_pairs" = true)
    (kf_make_pairs : PySem.W.keepIn K (.ref a_make_pairs) = true)
    (af_call_method : PySem.W.nsIn K mainGlobals "call_method" = some (some (.ref a_call_method)))
    (lf_call_method : K.lookup a_call_method = some ⟨ocf_call_method, odf_call_method, .func (PySem.W.fnOf "call_method" "call_method" (defArgs s_call_method) (defBody s_call_method) (defScope s_call_method) .none kVf_call_method dcf_call_method pmf_call_method anf_call_method cdf_call_method ctf_call_method), slf_call_method⟩)
    (cf_call_method : PySem.W.codeIn K cdf_call_method "call_method" = true)
    (kf_call_method : PySem.W.keepIn K (.ref a_call_method) = true)
    (af_method_for : PySem.W.nsIn K mainGlobals "method_for" = some (some (.ref a_method_for)))
    (lf_method_for : K.lookup a_method_for = some ⟨ocf_method_for, odf_method_for, .func (PySem.W.fnOf "method_for" "method_for" (defArgs s_method_for) (defBody s_method_for) (defScope s_method_for) .none kVf_method_for dcf_method_for pmf_method_for anf_method_for cdf_method_for ctf_method_for), slf_method_for⟩)
    (cf_method_for : PySem.W.codeIn K cdf_method_for "method_for" = true)
    (kf_method_for : PySem.W.keepIn K (.ref a_method_for) = true)
    (af_law_rows : PySem.W.nsIn K mainGlobals "_law_rows" = some (some (.ref a_law_rows)))
    (lf_law_rows : K.lookup a_law_rows = some ⟨ocf_law_rows, odf_law_rows, .func (PySem.W.fnOf "_law_rows" "_law_rows" (defArgs s_law_rows) (defBody s_law_rows) (defScope s_law_rows) .none kVf_law_rows dcf_law_rows pmf_law_rows anf_law_rows cdf_law_rows ctf_law_rows), slf_law_rows⟩)
    (cf_law_rows : PySem.W.codeIn K cdf_law_rows "_law_rows" = true)
    (kf_law_rows : PySem.W.keepIn K (.ref a_law_rows) = true)
    (af_law_draw : PySem.W.nsIn K mainGlobals "_law_draw" = some (some (.ref a_law_draw)))
    (lf_law_draw : K.lookup a_law_draw = some ⟨ocf_law_draw, odf_law_draw, .func (PySem.W.fnOf "_law_draw" "_law_draw" (defArgs s_law_draw) (defBody s_law_draw) (defScope s_law_draw) .none kVf_law_draw dcf_law_draw pmf_law_draw anf_law_draw cdf_law_draw ctf_law_draw), slf_law_draw⟩)
    (cf_law_draw : PySem.W.codeIn K cdf_law_draw "_law_draw" = true)
    (kf_law_draw : PySem.W.keepIn K (.ref a_law_draw) = true)
    (af_law_greatest : PySem.W.nsIn K mainGlobals "_law_greatest" = some (some (.ref a_law_greatest)))
    (lf_law_greatest : K.lookup a_law_greatest = some ⟨ocf_law_greatest, odf_law_greatest, .func (PySem.W.fnOf "_law_greatest" "_law_greatest" (defArgs s_law_greatest) (defBody s_law_greatest) (defScope s_law_greatest) .none kVf_law_greatest dcf_law_greatest pmf_law_greatest anf_law_greatest cdf_law_greatest ctf_law_greatest), slf_law_greatest⟩)
    (cf_law_greatest : PySem.W.codeIn K cdf_law_greatest "_law_greatest" = true)
    (kf_law_greatest : PySem.W.keepIn K (.ref a_law_greatest) = true)
    (af_law_integer : PySem.W.nsIn K mainGlobals "_law_integer" = some (some (.ref a_law_integer)))
    (lf_law_integer : K.lookup a_law_integer = some ⟨ocf_law_integer, odf_law_integer, .func (PySem.W.fnOf "_law_integer" "_law_integer" (defArgs s_law_integer) (defBody s_law_integer) (defScope s_law_integer) .none kVf_law_integer dcf_law_integer pmf_law_integer anf_law_integer cdf_law_integer ctf_law_integer), slf_law_integer⟩)
    (cf_law_integer : PySem.W.codeIn K cdf_law_integer "_law_integer" = true)
    (kf_law_integer : PySem.W.keepIn K (.ref a_law_integer) = true)
    (af_law_word : PySem.W.nsIn K mainGlobals "_law_word" = some (some (.ref a_law_word)))
    (lf_law_word : K.lookup a_law_word = some ⟨ocf_law_word, odf_law_word, .func (PySem.W.fnOf "_law_word" "_law_word" (defArgs s_law_word) (defBody s_law_word) (defScope s_law_word) .none kVf_law_word dcf_law_word pmf_law_word anf_law_word cdf_law_word ctf_law_word), slf_law_word⟩)
    (cf_law_word : PySem.W.codeIn K cdf_law_word "_law_word" = true)
    (kf_law_word : PySem.W.keepIn K (.ref a_law_word) = true)
    (af_law_part : PySem.W.nsIn K mainGlobals "_law_part" = some (some (.ref a_law_part)))
    (lf_law_part : K.lookup a_law_part = some ⟨ocf_law_part, odf_law_part, .func (PySem.W.fnOf "_law_part" "_law_part" (defArgs s_law_part) (defBody s_law_part) (defScope s_law_part) .none kVf_law_part dcf_law_part pmf_law_part anf_law_part cdf_law_part ctf_law_part), slf_law_part⟩)
    (cf_law_part : PySem.W.codeIn K cdf_law_part "_law_part" = true)
    (kf_law_part : PySem.W.keepIn K (.ref a_law_part) = true)
    (af_law_parts : PySem.W.nsIn K mainGlobals "_law_parts" = some (some (.ref a_law_parts)))
    (lf_law_parts : K.lookup a_law_parts = some ⟨ocf_law_parts, odf_law_parts, .func (PySem.W.fnOf "_law_parts" "_law_parts" (defArgs s_law_parts) (defBody s_law_parts) (defScope s_law_parts) .none kVf_law_parts dcf_law_parts pmf_law_parts anf_law_parts cdf_law_parts ctf_law_parts), slf_law_parts⟩)
    (cf_law_parts : PySem.W.codeIn K cdf_law_parts "_law_parts" = true)
    (kf_law_parts : PySem.W.keepIn K (.ref a_law_parts) = true)
    (af_law_call : PySem.W.nsIn K mainGlobals "_law_call" = some (some (.ref a_law_call)))
    (lf_law_call : K.lookup a_law_call = some ⟨ocf_law_call, odf_law_call, .func (PySem.W.fnOf "_law_call" "_law_call" (defArgs s_law_call) (defBody s_law_call) (defScope s_law_call) .none kVf_law_call dcf_law_call pmf_law_call anf_law_call cdf_law_call ctf_law_call), slf_law_call⟩)
    (cf_law_call : PySem.W.codeIn K cdf_law_call "_law_call" = true)
    (kf_law_call : PySem.W.keepIn K (.ref a_law_call) = true)
    (af_law_kind : PySem.W.nsIn K mainGlobals "_law_kind" = some (some (.ref a_law_kind)))
    (lf_law_kind : K.lookup a_law_kind = some ⟨ocf_law_kind, odf_law_kind, .func (PySem.W.fnOf "_law_kind" "_law_kind" (defArgs s_law_kind) (defBody s_law_kind) (defScope s_law_kind) .none kVf_law_kind dcf_law_kind pmf_law_kind anf_law_kind cdf_law_kind ctf_law_kind), slf_law_kind⟩)
    (cf_law_kind : PySem.W.codeIn K cdf_law_kind "_law_kind" = true)
    (kf_law_kind : PySem.W.keepIn K (.ref a_law_kind) = true)
    (af_law_same : PySem.W.nsIn K mainGlobals "_law_same" = some (some (.ref a_law_same)))
    (lf_law_same : K.lookup a_law_same = some ⟨ocf_law_same, odf_law_same, .func (PySem.W.fnOf "_law_same" "_law_same" (defArgs s_law_same) (defBody s_law_same) (defScope s_law_same) .none kVf_law_same dcf_law_same pmf_law_same anf_law_same cdf_law_same ctf_law_same), slf_law_same⟩)
    (cf_law_same : PySem.W.codeIn K cdf_law_same "_law_same" = true)
    (kf_law_same : PySem.W.keepIn K (.ref a_law_same) = true)
    (af_law_ordered : PySem.W.nsIn K mainGlobals "_law_ordered" = some (some (.ref a_law_ordered)))
    (lf_law_ordered : K.lookup a_law_ordered = some ⟨ocf_law_ordered, odf_law_ordered, .func (PySem.W.fnOf "_law_ordered" "_law_ordered" (defArgs s_law_ordered) (defBody s_law_ordered) (defScope s_law_ordered) .none kVf_law_ordered dcf_law_ordered pmf_law_ordered anf_law_ordered cdf_law_ordered ctf_law_ordered), slf_law_ordered⟩)
    (cf_law_ordered : PySem.W.codeIn K cdf_law_ordered "_law_ordered" = true)
    (kf_law_ordered : PySem.W.keepIn K (.ref a_law_ordered) = true)
    (af_law_joined : PySem.W.nsIn K mainGlobals "_law_joined" = some (some (.ref a_law_joined)))
    (lf_law_joined : K.lookup a_law_joined = some ⟨ocf_law_joined, odf_law_joined, .func (PySem.W.fnOf "_law_joined" "_law_joined" (defArgs s_law_joined) (defBody s_law_joined) (defScope s_law_joined) .none kVf_law_joined dcf_law_joined pmf_law_joined anf_law_joined cdf_law_joined ctf_law_joined), slf_law_joined⟩)
    (cf_law_joined : PySem.W.codeIn K cdf_law_joined "_law_joined" = true)
    (kf_law_joined : PySem.W.keepIn K (.ref a_law_joined) = true)
    (af_law_join : PySem.W.nsIn K mainGlobals "_law_join" = some (some (.ref a_law_join)))
    (lf_law_join : K.lookup a_law_join = some ⟨ocf_law_join, odf_law_join, .func (PySem.W.fnOf "_law_join" "_law_join" (defArgs s_law_join) (defBody s_law_join) (defScope s_law_join) .none kVf_law_join dcf_law_join pmf_law_join anf_law_join cdf_law_join ctf_law_join), slf_law_join⟩)
    (cf_law_join : PySem.W.codeIn K cdf_law_join "_law_join" = true)
    (kf_law_join : PySem.W.keepIn K (.ref a_law_join) = true)
    (af_law_sum : PySem.W.nsIn K mainGlobals "_law_sum" = some (some (.ref a_law_sum)))
    (lf_law_sum : K.lookup a_law_sum = some ⟨ocf_law_sum, odf_law_sum, .func (PySem.W.fnOf "_law_sum" "_law_sum" (defArgs s_law_sum) (defBody s_law_sum) (defScope s_law_sum) .none kVf_law_sum dcf_law_sum pmf_law_sum anf_law_sum cdf_law_sum ctf_law_sum), slf_law_sum⟩)
    (cf_law_sum : PySem.W.codeIn K cdf_law_sum "_law_sum" = true)
    (kf_law_sum : PySem.W.keepIn K (.ref a_law_sum) = true)
    (af_law_zip : PySem.W.nsIn K mainGlobals "_law_zip" = some (some (.ref a_law_zip)))
    (lf_law_zip : K.lookup a_law_zip = some ⟨ocf_law_zip, odf_law_zip, .func (PySem.W.fnOf "_law_zip" "_law_zip" (defArgs s_law_zip) (defBody s_law_zip) (defScope s_law_zip) .none kVf_law_zip dcf_law_zip pmf_law_zip anf_law_zip cdf_law_zip ctf_law_zip), slf_law_zip⟩)
    (cf_law_zip : PySem.W.codeIn K cdf_law_zip "_law_zip" = true)
    (kf_law_zip : PySem.W.keepIn K (.ref a_law_zip) = true)
    (af_law_sort : PySem.W.nsIn K mainGlobals "_law_sort" = some (some (.ref a_law_sort)))
    (lf_law_sort : K.lookup a_law_sort = some ⟨ocf_law_sort, odf_law_sort, .func (PySem.W.fnOf "_law_sort" "_law_sort" (defArgs s_law_sort) (defBody s_law_sort) (defScope s_law_sort) .none kVf_law_sort dcf_law_sort pmf_law_sort anf_law_sort cdf_law_sort ctf_law_sort), slf_law_sort⟩)
    (cf_law_sort : PySem.W.codeIn K cdf_law_sort "_law_sort" = true)
    (kf_law_sort : PySem.W.keepIn K (.ref a_law_sort) = true)
    (af_law_extend : PySem.W.nsIn K mainGlobals "_law_extend" = some (some (.ref a_law_extend)))
    (lf_law_extend : K.lookup a_law_extend = some ⟨ocf_law_extend, odf_law_extend, .func (PySem.W.fnOf "_law_extend" "_law_extend" (defArgs s_law_extend) (defBody s_law_extend) (defScope s_law_extend) .none kVf_law_extend dcf_law_extend pmf_law_extend anf_law_extend cdf_law_extend ctf_law_extend), slf_law_extend⟩)
    (cf_law_extend : PySem.W.codeIn K cdf_law_extend "_law_extend" = true)
    (kf_law_extend : PySem.W.keepIn K (.ref a_law_extend) = true)
    (alaw : PySem.W.nsIn K mainGlobals "law" = some (some (.ref a_law)))
    (llaw : K.lookup a_law = some ⟨oclaw, odlaw, .func (PySem.W.fnOf "law" "law" (defArgs s_law) (defBody s_law) (defScope s_law) .none kVlaw dclaw pmlaw anlaw cdlaw ctlaw), sllaw⟩)
    (claw : PySem.W.codeIn K cdlaw "law" = true)
    (klaw : PySem.W.keepIn K (.ref a_law) = true)
    (af_Ref_init : PySem.W.findIn K (.ref cRef) "__init__" = some (some (.ref a_Ref_init)))
    (if_Ref_init : PySem.W.isFn K (.ref a_Ref_init) = true)
    (lf_Ref_init : K.lookup a_Ref_init = some ⟨ocf_Ref_init, odf_Ref_init, .func (PySem.W.fnOf "__init__" "Ref.__init__" (defArgs s_Ref_init) (defBody s_Ref_init) (defScope s_Ref_init) .none kVf_Ref_init dcf_Ref_init pmf_Ref_init anf_Ref_init cdf_Ref_init ctf_Ref_init), slf_Ref_init⟩)
    (cf_Ref_init : PySem.W.codeIn K cdf_Ref_init "Ref.__init__" = true)
    (kf_Ref_init : PySem.W.keepIn K (.ref a_Ref_init) = true)
    (af_Ref_eq : PySem.W.findIn K (.ref cRef) "__eq__" = some (some (.ref a_Ref_eq)))
    (if_Ref_eq : PySem.W.isFn K (.ref a_Ref_eq) = true)
    (lf_Ref_eq : K.lookup a_Ref_eq = some ⟨ocf_Ref_eq, odf_Ref_eq, .func (PySem.W.fnOf "__eq__" "Ref.__eq__" (defArgs s_Ref_eq) (defBody s_Ref_eq) (defScope s_Ref_eq) .none kVf_Ref_eq dcf_Ref_eq pmf_Ref_eq anf_Ref_eq cdf_Ref_eq ctf_Ref_eq), slf_Ref_eq⟩)
    (cf_Ref_eq : PySem.W.codeIn K cdf_Ref_eq "Ref.__eq__" = true)
    (kf_Ref_eq : PySem.W.keepIn K (.ref a_Ref_eq) = true)
    (af_Builtin_init : PySem.W.findIn K (.ref cBuiltin) "__init__" = some (some (.ref a_Builtin_init)))
    (if_Builtin_init : PySem.W.isFn K (.ref a_Builtin_init) = true)
    (lf_Builtin_init : K.lookup a_Builtin_init = some ⟨ocf_Builtin_init, odf_Builtin_init, .func (PySem.W.fnOf "__init__" "Builtin.__init__" (defArgs s_Builtin_init) (defBody s_Builtin_init) (defScope s_Builtin_init) .none kVf_Builtin_init dcf_Builtin_init pmf_Builtin_init anf_Builtin_init cdf_Builtin_init ctf_Builtin_init), slf_Builtin_init⟩)
    (cf_Builtin_init : PySem.W.codeIn K cdf_Builtin_init "Builtin.__init__" = true)
    (kf_Builtin_init : PySem.W.keepIn K (.ref a_Builtin_init) = true)
    (af_Builtin_eq : PySem.W.findIn K (.ref cBuiltin) "__eq__" = some (some (.ref a_Builtin_eq)))
    (if_Builtin_eq : PySem.W.isFn K (.ref a_Builtin_eq) = true)
    (lf_Builtin_eq : K.lookup a_Builtin_eq = some ⟨ocf_Builtin_eq, odf_Builtin_eq, .func (PySem.W.fnOf "__eq__" "Builtin.__eq__" (defArgs s_Builtin_eq) (defBody s_Builtin_eq) (defScope s_Builtin_eq) .none kVf_Builtin_eq dcf_Builtin_eq pmf_Builtin_eq anf_Builtin_eq cdf_Builtin_eq ctf_Builtin_eq), slf_Builtin_eq⟩)
    (cf_Builtin_eq : PySem.W.codeIn K cdf_Builtin_eq "Builtin.__eq__" = true)
    (kf_Builtin_eq : PySem.W.keepIn K (.ref a_Builtin_eq) = true)
    (af_Parts_init : PySem.W.findIn K (.ref cParts) "__init__" = some (some (.ref a_Parts_init)))
    (if_Parts_init : PySem.W.isFn K (.ref a_Parts_init) = true)
    (lf_Parts_init : K.lookup a_Parts_init = some ⟨ocf_Parts_init, odf_Parts_init, .func (PySem.W.fnOf "__init__" "Parts.__init__" (defArgs s_Parts_init) (defBody s_Parts_init) (defScope s_Parts_init) .none kVf_Parts_init dcf_Parts_init pmf_Parts_init anf_Parts_init cdf_Parts_init ctf_Parts_init), slf_Parts_init⟩)
    (cf_Parts_init : PySem.W.codeIn K cdf_Parts_init "Parts.__init__" = true)
    (kf_Parts_init : PySem.W.keepIn K (.ref a_Parts_init) = true)
    (af_Table_pairs : PySem.W.findIn K (.ref cTable) "pairs" = some (some (.ref a_Table_pairs)))
    (if_Table_pairs : PySem.W.isFn K (.ref a_Table_pairs) = true)
    (lf_Table_pairs : K.lookup a_Table_pairs = some ⟨ocf_Table_pairs, odf_Table_pairs, .func (PySem.W.fnOf "pairs" "Table.pairs" (defArgs s_Table_pairs) (defBody s_Table_pairs) (defScope s_Table_pairs) .none kVf_Table_pairs dcf_Table_pairs pmf_Table_pairs anf_Table_pairs cdf_Table_pairs ctf_Table_pairs), slf_Table_pairs⟩)
    (cf_Table_pairs : PySem.W.codeIn K cdf_Table_pairs "Table.pairs" = true)
    (kf_Table_pairs : PySem.W.keepIn K (.ref a_Table_pairs) = true)
    (af_Kin_init : PySem.W.findIn K (.ref cKin) "__init__" = some (some (.ref a_Kin_init)))
    (if_Kin_init : PySem.W.isFn K (.ref a_Kin_init) = true)
    (lf_Kin_init : K.lookup a_Kin_init = some ⟨ocf_Kin_init, odf_Kin_init, .func (PySem.W.fnOf "__init__" "Kin.__init__" (defArgs s_Kin_init) (defBody s_Kin_init) (defScope s_Kin_init) .none kVf_Kin_init dcf_Kin_init pmf_Kin_init anf_Kin_init cdf_Kin_init ctf_Kin_init), slf_Kin_init⟩)
    (cf_Kin_init : PySem.W.codeIn K cdf_Kin_init "Kin.__init__" = true)
    (kf_Kin_init : PySem.W.keepIn K (.ref a_Kin_init) = true)
    (af_Form_init : PySem.W.findIn K (.ref cForm) "__init__" = some (some (.ref a_Form_init)))
    (if_Form_init : PySem.W.isFn K (.ref a_Form_init) = true)
    (lf_Form_init : K.lookup a_Form_init = some ⟨ocf_Form_init, odf_Form_init, .func (PySem.W.fnOf "__init__" "Form.__init__" (defArgs s_Form_init) (defBody s_Form_init) (defScope s_Form_init) .none kVf_Form_init dcf_Form_init pmf_Form_init anf_Form_init cdf_Form_init ctf_Form_init), slf_Form_init⟩)
    (cf_Form_init : PySem.W.codeIn K cdf_Form_init "Form.__init__" = true)
    (kf_Form_init : PySem.W.keepIn K (.ref a_Form_init) = true)
    (af_Form_add : PySem.W.findIn K (.ref cForm) "add" = some (some (.ref a_Form_add)))
    (if_Form_add : PySem.W.isFn K (.ref a_Form_add) = true)
    (lf_Form_add : K.lookup a_Form_add = some ⟨ocf_Form_add, odf_Form_add, .func (PySem.W.fnOf "add" "Form.add" (defArgs s_Form_add) (defBody s_Form_add) (defScope s_Form_add) .none kVf_Form_add dcf_Form_add pmf_Form_add anf_Form_add cdf_Form_add ctf_Form_add), slf_Form_add⟩)
    (cf_Form_add : PySem.W.codeIn K cdf_Form_add "Form.add" = true)
    (kf_Form_add : PySem.W.keepIn K (.ref a_Form_add) = true)
    (af_Form_is_enough : PySem.W.findIn K (.ref cForm) "is_enough" = some (some (.ref a_Form_is_enough)))
    (if_Form_is_enough : PySem.W.isFn K (.ref a_Form_is_enough) = true)
    (lf_Form_is_enough : K.lookup a_Form_is_enough = some ⟨ocf_Form_is_enough, odf_Form_is_enough, .func (PySem.W.fnOf "is_enough" "Form.is_enough" (defArgs s_Form_is_enough) (defBody s_Form_is_enough) (defScope s_Form_is_enough) .none kVf_Form_is_enough dcf_Form_is_enough pmf_Form_is_enough anf_Form_is_enough cdf_Form_is_enough ctf_Form_is_enough), slf_Form_is_enough⟩)
    (cf_Form_is_enough : PySem.W.codeIn K cdf_Form_is_enough "Form.is_enough" = true)
    (kf_Form_is_enough : PySem.W.keepIn K (.ref a_Form_is_enough) = true)
    (af_Store_init : PySem.W.findIn K (.ref cStore) "__init__" = some (some (.ref a_Store_init)))
    (if_Store_init : PySem.W.isFn K (.ref a_Store_init) = true)
    (lf_Store_init : K.lookup a_Store_init = some ⟨ocf_Store_init, odf_Store_init, .func (PySem.W.fnOf "__init__" "Store.__init__" (defArgs s_Store_init) (defBody s_Store_init) (defScope s_Store_init) .none kVf_Store_init dcf_Store_init pmf_Store_init anf_Store_init cdf_Store_init ctf_Store_init), slf_Store_init⟩)
    (cf_Store_init : PySem.W.codeIn K cdf_Store_init "Store.__init__" = true)
    (kf_Store_init : PySem.W.keepIn K (.ref a_Store_init) = true)
    (af_Store_make : PySem.W.findIn K (.ref cStore) "make" = some (some (.ref a_Store_make)))
    (if_Store_make : PySem.W.isFn K (.ref a_Store_make) = true)
    (lf_Store_make : K.lookup a_Store_make = some ⟨ocf_Store_make, odf_Store_make, .func (PySem.W.fnOf "make" "Store.make" (defArgs s_Store_make) (defBody s_Store_make) (defScope s_Store_make) .none kVf_Store_make dcf_Store_make pmf_Store_make anf_Store_make cdf_Store_make ctf_Store_make), slf_Store_make⟩)
    (cf_Store_make : PySem.W.codeIn K cdf_Store_make "Store.make" = true)
    (kf_Store_make : PySem.W.keepIn K (.ref a_Store_make) = true)
    (af_Store_at : PySem.W.findIn K (.ref cStore) "at" = some (some (.ref a_Store_at)))
    (if_Store_at : PySem.W.isFn K (.ref a_Store_at) = true)
    (lf_Store_at : K.lookup a_Store_at = some ⟨ocf_Store_at, odf_Store_at, .func (PySem.W.fnOf "at" "Store.at" (defArgs s_Store_at) (defBody s_Store_at) (defScope s_Store_at) .none kVf_Store_at dcf_Store_at pmf_Store_at anf_Store_at cdf_Store_at ctf_Store_at), slf_Store_at⟩)
    (cf_Store_at : PySem.W.codeIn K cdf_Store_at "Store.at" = true)
    (kf_Store_at : PySem.W.keepIn K (.ref a_Store_at) = true)
    (qMOST_HELD : PySem.W.nsIn K mainGlobals "MOST_HELD" = some (some (.int 1000 tkMOST_HELD)))
    (qDOUBTFUL_BITS : PySem.W.nsIn K mainGlobals "DOUBTFUL_BITS" = some (some (.int 997 tkDOUBTFUL_BITS)))
    (qMOST_AROUND : PySem.W.nsIn K mainGlobals "MOST_AROUND" = some (some (.int 10 tkMOST_AROUND)))
    (k_Ref_Builtin : PySem.W.kitOne K (.ref cRef) (.ref cBuiltin) = some false)
    (k_Ref_bool : PySem.W.kitOne K (.ref cRef) (.type "bool") = some false)
    (k_Ref_int : PySem.W.kitOne K (.ref cRef) (.type "int") = some false)
    (k_Ref_str : PySem.W.kitOne K (.ref cRef) (.type "str") = some false)
    (k_Builtin_Ref : PySem.W.kitOne K (.ref cBuiltin) (.ref cRef) = some false)
    (k_Builtin_bool : PySem.W.kitOne K (.ref cBuiltin) (.type "bool") = some false)
    (k_Builtin_int : PySem.W.kitOne K (.ref cBuiltin) (.type "int") = some false)
    (k_Builtin_str : PySem.W.kitOne K (.ref cBuiltin) (.type "str") = some false)
    (k_Parts_Ref : PySem.W.kitOne K (.ref cParts) (.ref cRef) = some false)
    (k_Parts_Table : PySem.W.kitOne K (.ref cParts) (.ref cTable) = some false)
    (k_Parts_Instance : PySem.W.kitOne K (.ref cParts) (.ref cInstance) = some false)
    (k_Parts_Kin : PySem.W.kitOne K (.ref cParts) (.ref cKin) = some false)
    (k_Parts_Builtin : PySem.W.kitOne K (.ref cParts) (.ref cBuiltin) = some false)
    (k_Table_Ref : PySem.W.kitOne K (.ref cTable) (.ref cRef) = some false)
    (k_Table_Parts : PySem.W.kitOne K (.ref cTable) (.ref cParts) = some false)
    (k_Table_Instance : PySem.W.kitOne K (.ref cTable) (.ref cInstance) = some false)
    (k_Table_Kin : PySem.W.kitOne K (.ref cTable) (.ref cKin) = some false)
    (k_Table_Builtin : PySem.W.kitOne K (.ref cTable) (.ref cBuiltin) = some false)
    (k_Instance_Ref : PySem.W.kitOne K (.ref cInstance) (.ref cRef) = some false)
    (k_Instance_Parts : PySem.W.kitOne K (.ref cInstance) (.ref cParts) = some false)
    (k_Instance_Table : PySem.W.kitOne K (.ref cInstance) (.ref cTable) = some false)
    (k_Instance_Kin : PySem.W.kitOne K (.ref cInstance) (.ref cKin) = some false)
    (k_Instance_Builtin : PySem.W.kitOne K (.ref cInstance) (.ref cBuiltin) = some false)
    (k_Kin_Ref : PySem.W.kitOne K (.ref cKin) (.ref cRef) = some false)
    (k_Kin_Parts : PySem.W.kitOne K (.ref cKin) (.ref cParts) = some false)
    (k_Kin_Table : PySem.W.kitOne K (.ref cKin) (.ref cTable) = some false)
    (k_Kin_Instance : PySem.W.kitOne K (.ref cKin) (.ref cInstance) = some false)
    (k_Kin_Builtin : PySem.W.kitOne K (.ref cKin) (.ref cBuiltin) = some false)
    (k_Form_Ref : PySem.W.kitOne K (.ref cForm) (.ref cRef) = some false)
    (k_Form_Builtin : PySem.W.kitOne K (.ref cForm) (.ref cBuiltin) = some false)
    (k_Store_Ref : PySem.W.kitOne K (.ref cStore) (.ref cRef) = some false)
    (k_Store_Parts : PySem.W.kitOne K (.ref cStore) (.ref cParts) = some false)
    (k_Store_Builtin : PySem.W.kitOne K (.ref cStore) (.ref cBuiltin) = some false)
    (k_NoneType_Ref : PySem.W.kitOne K (.type "NoneType") (.ref cRef) = some false)
    (k_NoneType_Parts : PySem.W.kitOne K (.type "NoneType") (.ref cParts) = some false)
    (k_NoneType_Table : PySem.W.kitOne K (.type "NoneType") (.ref cTable) = some false)
    (k_NoneType_Instance : PySem.W.kitOne K (.type "NoneType") (.ref cInstance) = some false)
    (k_NoneType_Kin : PySem.W.kitOne K (.type "NoneType") (.ref cKin) = some false)
    (k_NoneType_Builtin : PySem.W.kitOne K (.type "NoneType") (.ref cBuiltin) = some false)
    (k_bool_Ref : PySem.W.kitOne K (.type "bool") (.ref cRef) = some false)
    (k_bool_Builtin : PySem.W.kitOne K (.type "bool") (.ref cBuiltin) = some false)
    (k_int_Ref : PySem.W.kitOne K (.type "int") (.ref cRef) = some false)
    (k_int_Builtin : PySem.W.kitOne K (.type "int") (.ref cBuiltin) = some false)
    (k_str_Ref : PySem.W.kitOne K (.type "str") (.ref cRef) = some false)
    (k_str_Builtin : PySem.W.kitOne K (.type "str") (.ref cBuiltin) = some false)
    (nf_Ref_NoneType : PySem.W.notFirst K cRef (.type "NoneType") = true)
    (su_Ref_NoneType : PySem.W.subIn K (.ref cRef) (.type "NoneType") = some false)
    (nf_Ref_int : PySem.W.notFirst K cRef (.type "int") = true)
    (su_Ref_int : PySem.W.subIn K (.ref cRef) (.type "int") = some false)
    (nf_Ref_str : PySem.W.notFirst K cRef (.type "str") = true)
    (su_Ref_str : PySem.W.subIn K (.ref cRef) (.type "str") = some false)
    (nf_Ref_Builtin : PySem.W.notFirst K cRef (.ref cBuiltin) = true)
    (nf_Builtin_NoneType : PySem.W.notFirst K cBuiltin (.type "NoneType") = true)
    (su_Builtin_NoneType : PySem.W.subIn K (.ref cBuiltin) (.type "NoneType") = some false)
    (nf_Builtin_int : PySem.W.notFirst K cBuiltin (.type "int") = true)
    (su_Builtin_int : PySem.W.subIn K (.ref cBuiltin) (.type "int") = some false)
    (nf_Builtin_str : PySem.W.notFirst K cBuiltin (.type "str") = true)
    (su_Builtin_str : PySem.W.subIn K (.ref cBuiltin) (.type "str") = some false)
    (nf_Builtin_Ref : PySem.W.notFirst K cBuiltin (.ref cRef) = true)
    (zrange : PySem.W.nsIn K mainGlobals "range" = some none)
    (zlen : PySem.W.nsIn K mainGlobals "len" = some none)
    (zint : PySem.W.nsIn K mainGlobals "int" = some none)
    (zstr : PySem.W.nsIn K mainGlobals "str" = some none)
    (zbool : PySem.W.nsIn K mainGlobals "bool" = some none)
    (zisinstance : PySem.W.nsIn K mainGlobals "isinstance" = some none)
    (zlist : PySem.W.nsIn K mainGlobals "list" = some none)
    (zabs : PySem.W.nsIn K mainGlobals "abs" = some none)
    (zmin : PySem.W.nsIn K mainGlobals "min" = some none)
    (zenumerate : PySem.W.nsIn K mainGlobals "enumerate" = some none)
    (zzip : PySem.W.nsIn K mainGlobals "zip" = some none)
    (zsorted : PySem.W.nsIn K mainGlobals "sorted" = some none)
    (zsum : PySem.W.nsIn K mainGlobals "sum" = some none)
    (udLM : PySem.W.nsIn K mainGlobals "LIST_METHODS" = some (some (.ref aLM)))
    (ldLM : K.lookup aLM = some ⟨.type "dict", none, .dict esLM nnLM, #[]⟩)
    (kdLM : PySem.W.KeysLit w.params esLM.toList)
    (lowLM : (aLM == sysModules) = false)
    (nd0 : PySem.W.nsIn K aLM "join" = some (some (.ref tA0)))
    (lt0 : K.lookup tA0 = some ⟨.type "tuple", tD0, .seq tI0 tN0, tO0⟩)
    (vt0 : Vals [.ref a_join, .ref qA0] tI0.toList)
    (st0 : tI0.size ≤ sizeLine)
    (lq0 : K.lookup qA0 = some ⟨.type "tuple", qD0, .seq qI0 qN0, qO0⟩)
    (vq0 : Vals [.str "text"] qI0.toList)
    (sq0 : qI0.size ≤ sizeLine)
    (nd1 : PySem.W.nsIn K aLM "sum" = some (some (.ref tA1)))
    (lt1 : K.lookup tA1 = some ⟨.type "tuple", tD1, .seq tI1 tN1, tO1⟩)
    (vt1 : Vals [.ref a_total, .ref qA1] tI1.toList)
    (st1 : tI1.size ≤ sizeLine)
    (lq1 : K.lookup qA1 = some ⟨.type "tuple", qD1, .seq qI1 qN1, qO1⟩)
    (vq1 : Vals [] qI1.toList)
    (sq1 : qI1.size ≤ sizeLine)
    (nd2 : PySem.W.nsIn K aLM "sort" = some (some (.ref tA2)))
    (lt2 : K.lookup tA2 = some ⟨.type "tuple", tD2, .seq tI2 tN2, tO2⟩)
    (vt2 : Vals [.ref a_sort, .ref qA2] tI2.toList)
    (st2 : tI2.size ≤ sizeLine)
    (lq2 : K.lookup qA2 = some ⟨.type "tuple", qD2, .seq qI2 qN2, qO2⟩)
    (vq2 : Vals [] qI2.toList)
    (sq2 : qI2.size ≤ sizeLine)
    (nd3 : PySem.W.nsIn K aLM "extend" = some (some (.ref tA3)))
    (lt3 : K.lookup tA3 = some ⟨.type "tuple", tD3, .seq tI3 tN3, tO3⟩)
    (vt3 : Vals [.ref a_extend, .ref qA3] tI3.toList)
    (st3 : tI3.size ≤ sizeLine)
    (lq3 : K.lookup qA3 = some ⟨.type "tuple", qD3, .seq qI3 qN3, qO3⟩)
    (vq3 : Vals [.str "list"] qI3.toList)
    (sq3 : qI3.size ≤ sizeLine)
    (nd4 : PySem.W.nsIn K aLM "zip" = some (some (.ref tA4)))
    (lt4 : K.lookup tA4 = some ⟨.type "tuple", tD4, .seq tI4 tN4, tO4⟩)
    (vt4 : Vals [.ref a_pair_up, .ref qA4] tI4.toList)
    (st4 : tI4.size ≤ sizeLine)
    (lq4 : K.lookup qA4 = some ⟨.type "tuple", qD4, .seq qI4 qN4, qO4⟩)
    (vq4 : Vals [.str "list"] qI4.toList)
    (sq4 : qI4.size ≤ sizeLine)
    : ∃ fd : FuncData, (∀ (s : Shared) (v : Value), BindsTo s fd ⟨[v], []⟩ [("script", v)]) ∧ ∀ base : Heap, K.In base → base.Ns mainGlobals mg → FnOk l.prog w K mg base CX0 46 fa fd ["script"] (spLaw K) := by
  have e := hfa.symm.trans (PySem.W.mg_of X G alaw)
  cases e
  have KlRef : Cls K cRef := ⟨pgRef, hdRef, poRef, saRef⟩
  have tyRef : ∀ {H : Hp} {a dx : Addr} {fs : List (Str × V)}, H a = some (.ins cRef dx fs) → TyX K H (.ref a) (.ref cRef) := fun e => .base (.ins e KlRef haRef hnTy htTy hmRef)
  have KlBuiltin : Cls K cBuiltin := ⟨pgBuiltin, hdBuiltin, poBuiltin, saBuiltin⟩
  have tyBuiltin : ∀ {H : Hp} {a dx : Addr} {fs : List (Str × V)}, H a = some (.ins cBuiltin dx fs) → TyX K H (.ref a) (.ref cBuiltin) := fun e => .base (.ins e KlBuiltin haBuiltin hnTy htTy hmBuiltin)
  have KlParts : Cls K cParts := ⟨pgParts, hdParts, poParts, saParts⟩
  have tyParts : ∀ {H : Hp} {a dx : Addr} {fs : List (Str × V)}, H a = some (.ins cParts dx fs) → TyX K H (.ref a) (.ref cParts) := fun e => .base (.ins e KlParts haParts hnTy htTy hmParts)
  have KlTable : Cls K cTable := ⟨pgTable, hdTable, poTable, saTable⟩
  have tyTable : ∀ {H : Hp} {a dx : Addr} {fs : List (Str × V)}, H a = some (.ins cTable dx fs) → TyX K H (.ref a) (.ref cTable) := fun e => .base (.ins e KlTable haTable hnTy htTy hmTable)
  have KlInstance : Cls K cInstance := ⟨pgInstance, hdInstance, poInstance, saInstance⟩
  have tyInstance : ∀ {H : Hp} {a dx : Addr} {fs : List (Str × V)}, H a = some (.ins cInstance dx fs) → TyX K H (.ref a) (.ref cInstance) := fun e => .base (.ins e KlInstance haInstance hnTy htTy hmInstance)
  have KlKin : Cls K cKin := ⟨pgKin, hdKin, poKin, saKin⟩
  have tyKin : ∀ {H : Hp} {a dx : Addr} {fs : List (Str × V)}, H a = some (.ins cKin dx fs) → TyX K H (.ref a) (.ref cKin) := fun e => .base (.ins e KlKin haKin hnTy htTy hmKin)
  have KlForm : Cls K cForm := ⟨pgForm, hdForm, poForm, saForm⟩
  have tyForm : ∀ {H : Hp} {a dx : Addr} {fs : List (Str × V)}, H a = some (.ins cForm dx fs) → TyX K H (.ref a) (.ref cForm) := fun e => .base (.ins e KlForm haForm hnTy htTy hmForm)
  have KlStore : Cls K cStore := ⟨pgStore, hdStore, poStore, saStore⟩
  have tyStore : ∀ {H : Hp} {a dx : Addr} {fs : List (Str × V)}, H a = some (.ins cStore dx fs) → TyX K H (.ref a) (.ref cStore) := fun e => .base (.ins e KlStore haStore hnTy htTy hmStore)
  have oexScriptError : OexC K cScriptError := ⟨⟨nmScriptError, qScriptError, NScriptError, bsScriptError, _, snScriptError, subScriptError, abScriptError, colScriptError, ddScriptError, m0ScriptError, m1ScriptError, m2ScriptError, m3ScriptError, m5ScriptError, xScriptError, by rfl⟩, saScriptError, exScriptError, tpScriptError, kpScriptError⟩
  have TScriptError : Exn l.prog K mg cScriptError fScriptError "kind" "message" := ⟨oexScriptError, n1ScriptError, n2ScriptError, iScriptError, tiScriptError, ⟨gaScriptError, ggScriptError, exScriptError, hdScriptError⟩, PySem.W.exm_ref exScriptError hdScriptError tpScriptError ssScriptError⟩
  have UScriptError : Sup l.prog K mg cdaScriptError ccScriptError cScriptError cScriptError := ⟨⟨_, _, _, _, _, _, coScriptError, cvScriptError, fiScriptError⟩, ⟨_, _, _, ceScriptError⟩, toSup, PySem.W.mg_none_of X G suSup, (PySem.W.any_some hdScriptError).imp fun _ h => h.1, mrScriptError, opSup, ksScriptError, vaScriptError⟩
  have bScriptError : Binds K (PySem.W.ksFn "__init__" "ScriptError.__init__" (defArgs sx_ScriptError) (defBody sx_ScriptError) (defScope sx_ScriptError) .none kVScriptError dcScriptError pmScriptError anScriptError (.ref cdaScriptError) ctScriptError ccScriptError) ["self", "kind", "message"] [] := .all fun us hl => match us, hl with | [_, _, _], _ => rfl
  have ecScriptError : ExcC K cScriptError := ⟨gaScriptError, ggScriptError, exScriptError, hdScriptError, haScriptError, hnTy, htTy, hmScriptError⟩
  have Ff_kind_of := fun_mk (st := s_kind_of) lf_kind_of cf_kind_of kf_kind_of
  have bf_kind_of := Ff_kind_of.binds (ps := ["store", "value"]) fun _ _ _ _ _ _ us hl => match us, hl with | [_, _], _ => rfl
  have glf_kind_of := PySem.W.mg_of X G af_kind_of
  have Ff_kind_of_thing := fun_mk (st := s_kind_of_thing) lf_kind_of_thing cf_kind_of_thing kf_kind_of_thing
  have bf_kind_of_thing := Ff_kind_of_thing.binds (ps := ["thing"]) fun _ _ _ _ _ _ us hl => match us, hl with | [_], _ => rfl
  have glf_kind_of_thing := PySem.W.mg_of X G af_kind_of_thing
  have Ff_is_key := fun_mk (st := s_is_key) lf_is_key cf_is_key kf_is_key
  have bf_is_key := Ff_is_key.binds (ps := ["value"]) fun _ _ _ _ _ _ us hl => match us, hl with | [_], _ => rfl
  have glf_is_key := PySem.W.mg_of X G af_is_key
  have Ff_check_size := fun_mk (st := s_check_size) lf_check_size cf_check_size kf_check_size
  have bf_check_size := Ff_check_size.binds (ps := ["size"]) fun _ _ _ _ _ _ us hl => match us, hl with | [_], _ => rfl
  have glf_check_size := PySem.W.mg_of X G af_check_size
  have Ff_is_bounded := fun_mk (st := s_is_bounded) lf_is_bounded cf_is_bounded kf_is_bounded
  have bf_is_bounded := Ff_is_bounded.binds (ps := ["number"]) fun _ _ _ _ _ _ us hl => match us, hl with | [_], _ => rfl
  have glf_is_bounded := PySem.W.mg_of X G af_is_bounded
  have Ff_checked_integer := fun_mk (st := s_checked_integer) lf_checked_integer cf_checked_integer kf_checked_integer
  have bf_checked_integer := Ff_checked_integer.binds (ps := ["number"]) fun _ _ _ _ _ _ us hl => match us, hl with | [_], _ => rfl
  have glf_checked_integer := PySem.W.mg_of X G af_checked_integer
  have Ff_check_count := fun_mk (st := s_check_count) lf_check_count cf_check_count kf_check_count
  have bf_check_count := Ff_check_count.binds (ps := ["values", "wanted"]) fun _ _ _ _ _ _ us hl => match us, hl with | [_, _], _ => rfl
  have glf_check_count := PySem.W.mg_of X G af_check_count
  have Ff_check_arguments := fun_mk (st := s_check_arguments) lf_check_arguments cf_check_arguments kf_check_arguments
  have bf_check_arguments := Ff_check_arguments.binds (ps := ["store", "values", "kinds"]) fun _ _ _ _ _ _ us hl => match us, hl with | [_, _, _], _ => rfl
  have glf_check_arguments := PySem.W.mg_of X G af_check_arguments
  have Ff_check_kind := fun_mk (st := s_check_kind) lf_check_kind cf_check_kind kf_check_kind
  have bf_check_kind := Ff_check_kind.binds (ps := ["store", "value", "kind"]) fun _ _ _ _ _ _ us hl => match us, hl with | [_, _, _], _ => rfl
  have glf_check_kind := PySem.W.mg_of X G af_check_kind
  have Ff_check_alike := fun_mk (st := s_check_alike) lf_check_alike cf_check_alike kf_check_alike
  have bf_check_alike := Ff_check_alike.binds (ps := ["store", "values"]) fun _ _ _ _ _ _ us hl => match us, hl with | [_, _], _ => rfl
  have glf_check_alike := PySem.W.mg_of X G af_check_alike
  have Ff_refuse_field := fun_mk (st := s_refuse_field) lf_refuse_field cf_refuse_field kf_refuse_field
  have bf_refuse_field := Ff_refuse_field.binds (ps := ["store", "x", "name"]) fun _ _ _ _ _ _ us hl => match us, hl with | [_, _, _], _ => rfl
  have glf_refuse_field := PySem.W.mg_of X G af_refuse_field
  have Ff_make_list := fun_mk (st := s_make_list) lf_make_list cf_make_list kf_make_list
  have bf_make_list := Ff_make_list.binds (ps := ["store", "values"]) fun _ _ _ _ _ _ us hl => match us, hl with | [_, _], _ => rfl
  have glf_make_list := PySem.W.mg_of X G af_make_list
  have Ff_quoted := fun_mk (st := s_quoted) lf_quoted cf_quoted kf_quoted
  have bf_quoted := Ff_quoted.binds (ps := ["text"]) fun _ _ _ _ _ _ us hl => match us, hl with | [_], _ => rfl
  have glf_quoted := PySem.W.mg_of X G af_quoted
  have Ff_write_value := fun_mk (st := s_write_value) lf_write_value cf_write_value kf_write_value
  have bf_write_value := Ff_write_value.binds (ps := ["store", "value", "most"]) fun _ _ _ _ _ _ us hl => match us, hl with | [_, _, _], _ => rfl
  have glf_write_value := PySem.W.mg_of X G af_write_value
  have Ff_text_of := fun_mk (st := s_text_of) lf_text_of cf_text_of kf_text_of
  have bf_text_of := Ff_text_of.binds (ps := ["store", "value", "most"]) fun _ _ _ _ _ _ us hl => match us, hl with | [_, _, _], _ => rfl
  have glf_text_of := PySem.W.mg_of X G af_text_of
  have Ff_write := fun_mk (st := s_write) lf_write cf_write kf_write
  have bf_write := Ff_write.binds (ps := ["form", "value"]) fun _ _ _ _ _ _ us hl => match us, hl with | [_, _], _ => rfl
  have glf_write := PySem.W.mg_of X G af_write
  have Ff_write_around := fun_mk (st := s_write_around) lf_write_around cf_write_around kf_write_around
  have bf_write_around := Ff_write_around.binds (ps := ["form", "ref", "opening", "closing"]) fun _ _ _ _ _ _ us hl => match us, hl with | [_, _, _, _], _ => rfl
  have glf_write_around := PySem.W.mg_of X G af_write_around
  have Ff_write_held := fun_mk (st := s_write_held) lf_write_held cf_write_held kf_write_held
  have bf_write_held := Ff_write_held.binds (ps := ["form", "thing"]) fun _ _ _ _ _ _ us hl => match us, hl with | [_, _], _ => rfl
  have glf_write_held := PySem.W.mg_of X G af_write_held
  have Ff_held_by := fun_mk (st := s_held_by) lf_held_by cf_held_by kf_held_by
  have bf_held_by := Ff_held_by.binds (ps := ["thing"]) fun _ _ _ _ _ _ us hl => match us, hl with | [_], _ => rfl
  have glf_held_by := PySem.W.mg_of X G af_held_by
  have Ff_plain_form := fun_mk (st := s_plain_form) lf_plain_form cf_plain_form kf_plain_form
  have bf_plain_form := Ff_plain_form.binds (ps := ["form", "value", "thing"]) fun _ _ _ _ _ _ us hl => match us, hl with | [_, _, _], _ => rfl
  have glf_plain_form := PySem.W.mg_of X G af_plain_form
  have Ff_join := fun_mk (st := s_join) lf_join cf_join kf_join
  have bf_join := Ff_join.binds (ps := ["store", "parts", "between"]) fun _ _ _ _ _ _ us hl => match us, hl with | [_, _, _], _ => rfl
  have glf_join := PySem.W.mg_of X G af_join
  have Ff_joined := fun_mk (st := s_joined) lf_joined cf_joined kf_joined
  have bf_joined := Ff_joined.binds (ps := ["store", "values", "between"]) fun _ _ _ _ _ _ us hl => match us, hl with | [_, _, _], _ => rfl
  have glf_joined := PySem.W.mg_of X G af_joined
  have Ff_sort := fun_mk (st := s_sort) lf_sort cf_sort kf_sort
  have bf_sort := Ff_sort.binds (ps := ["store", "parts"]) fun _ _ _ _ _ _ us hl => match us, hl with | [_, _], _ => rfl
  have glf_sort := PySem.W.mg_of X G af_sort
  have Ff_extend := fun_mk (st := s_extend) lf_extend cf_extend kf_extend
  have bf_extend := Ff_extend.binds (ps := ["store", "parts", "other"]) fun _ _ _ _ _ _ us hl => match us, hl with | [_, _, _], _ => rfl
  have glf_extend := PySem.W.mg_of X G af_extend
  have Ff_total := fun_mk (st := s_total) lf_total cf_total kf_total
  have bf_total := Ff_total.binds (ps := ["store", "parts"]) fun _ _ _ _ _ _ us hl => match us, hl with | [_, _], _ => rfl
  have glf_total := PySem.W.mg_of X G af_total
  have Ff_pair_up := fun_mk (st := s_pair_up) lf_pair_up cf_pair_up kf_pair_up
  have bf_pair_up := Ff_pair_up.binds (ps := ["store", "parts", "other"]) fun _ _ _ _ _ _ us hl => match us, hl with | [_, _, _], _ => rfl
  have glf_pair_up := PySem.W.mg_of X G af_pair_up
  have Ff_make_pairs := fun_mk (st := s_make_pairs) lf_make_pairs cf_make_pairs kf_make_pairs
  have bf_make_pairs := Ff_make_pairs.binds (ps := ["store", "pairs"]) fun _ _ _ _ _ _ us hl => match us, hl with | [_, _], _ => rfl
  have glf_make_pairs := PySem.W.mg_of X G af_make_pairs
  have Ff_call_method := fun_mk (st := s_call_method) lf_call_method cf_call_method kf_call_method
  have bf_call_method := Ff_call_method.binds (ps := ["store", "x", "name", "values"]) fun _ _ _ _ _ _ us hl => match us, hl with | [_, _, _, _], _ => rfl
  have glf_call_method := PySem.W.mg_of X G af_call_method
  have Ff_method_for := fun_mk (st := s_method_for) lf_method_for cf_method_for kf_method_for
  have bf_method_for := Ff_method_for.binds (ps := ["owner", "name"]) fun _ _ _ _ _ _ us hl => match us, hl with | [_, _], _ => rfl
  have glf_method_for := PySem.W.mg_of X G af_method_for
  have Ff_law_rows := fun_mk (st := s_law_rows) lf_law_rows cf_law_rows kf_law_rows
  have bf_law_rows := Ff_law_rows.binds (ps := ["script", "count_v"]) fun _ _ _ _ _ _ us hl => match us, hl with | [_, _], _ => rfl
  have glf_law_rows := PySem.W.mg_of X G af_law_rows
  have Ff_law_draw := fun_mk (st := s_law_draw) lf_law_draw cf_law_draw kf_law_draw
  have bf_law_draw := Ff_law_draw.binds (ps := ["state", "count_v"]) fun _ _ _ _ _ _ us hl => match us, hl with | [_, _], _ => rfl
  have glf_law_draw := PySem.W.mg_of X G af_law_draw
  have Ff_law_greatest := fun_mk (st := s_law_greatest) lf_law_greatest cf_law_greatest kf_law_greatest
  have bf_law_greatest := Ff_law_greatest.binds (ps := []) fun _ _ _ _ _ _ us hl => match us, hl with | [], _ => rfl
  have glf_law_greatest := PySem.W.mg_of X G af_law_greatest
  have Ff_law_integer := fun_mk (st := s_law_integer) lf_law_integer cf_law_integer kf_law_integer
  have bf_law_integer := Ff_law_integer.binds (ps := ["state"]) fun _ _ _ _ _ _ us hl => match us, hl with | [_], _ => rfl
  have glf_law_integer := PySem.W.mg_of X G af_law_integer
  have Ff_law_word := fun_mk (st := s_law_word) lf_law_word cf_law_word kf_law_word
  have bf_law_word := Ff_law_word.binds (ps := ["state"]) fun _ _ _ _ _ _ us hl => match us, hl with | [_], _ => rfl
  have glf_law_word := PySem.W.mg_of X G af_law_word
  have Ff_law_part := fun_mk (st := s_law_part) lf_law_part cf_law_part kf_law_part
  have bf_law_part := Ff_law_part.binds (ps := ["state", "kind"]) fun _ _ _ _ _ _ us hl => match us, hl with | [_, _], _ => rfl
  have glf_law_part := PySem.W.mg_of X G af_law_part
  have Ff_law_parts := fun_mk (st := s_law_parts) lf_law_parts cf_law_parts kf_law_parts
  have bf_law_parts := Ff_law_parts.binds (ps := ["state"]) fun _ _ _ _ _ _ us hl => match us, hl with | [_], _ => rfl
  have glf_law_parts := PySem.W.mg_of X G af_law_parts
  have Ff_law_call := fun_mk (st := s_law_call) lf_law_call cf_law_call kf_law_call
  have bf_law_call := Ff_law_call.binds (ps := ["store", "number", "name", "values"]) fun _ _ _ _ _ _ us hl => match us, hl with | [_, _, _, _], _ => rfl
  have glf_law_call := PySem.W.mg_of X G af_law_call
  have Ff_law_kind := fun_mk (st := s_law_kind) lf_law_kind cf_law_kind kf_law_kind
  have bf_law_kind := Ff_law_kind.binds (ps := ["parts"]) fun _ _ _ _ _ _ us hl => match us, hl with | [_], _ => rfl
  have glf_law_kind := PySem.W.mg_of X G af_law_kind
  have Ff_law_same := fun_mk (st := s_law_same) lf_law_same cf_law_same kf_law_same
  have bf_law_same := Ff_law_same.binds (ps := ["parts", "others"]) fun _ _ _ _ _ _ us hl => match us, hl with | [_, _], _ => rfl
  have glf_law_same := PySem.W.mg_of X G af_law_same
  have Ff_law_ordered := fun_mk (st := s_law_ordered) lf_law_ordered cf_law_ordered kf_law_ordered
  have bf_law_ordered := Ff_law_ordered.binds (ps := ["parts"]) fun _ _ _ _ _ _ us hl => match us, hl with | [_], _ => rfl
  have glf_law_ordered := PySem.W.mg_of X G af_law_ordered
  have Ff_law_joined := fun_mk (st := s_law_joined) lf_law_joined cf_law_joined kf_law_joined
  have bf_law_joined := Ff_law_joined.binds (ps := ["store", "parts", "between"]) fun _ _ _ _ _ _ us hl => match us, hl with | [_, _, _], _ => rfl
  have glf_law_joined := PySem.W.mg_of X G af_law_joined
  have Ff_law_join := fun_mk (st := s_law_join) lf_law_join cf_law_join kf_law_join
  have bf_law_join := Ff_law_join.binds (ps := ["store", "number", "parts", "between"]) fun _ _ _ _ _ _ us hl => match us, hl with | [_, _, _, _], _ => rfl
  have glf_law_join := PySem.W.mg_of X G af_law_join
  have Ff_law_sum := fun_mk (st := s_law_sum) lf_law_sum cf_law_sum kf_law_sum
  have bf_law_sum := Ff_law_sum.binds (ps := ["store", "number", "parts"]) fun _ _ _ _ _ _ us hl => match us, hl with | [_, _, _], _ => rfl
  have glf_law_sum := PySem.W.mg_of X G af_law_sum
  have Ff_law_zip := fun_mk (st := s_law_zip) lf_law_zip cf_law_zip kf_law_zip
  have bf_law_zip := Ff_law_zip.binds (ps := ["store", "number", "other", "parts", "others"]) fun _ _ _ _ _ _ us hl => match us, hl with | [_, _, _, _, _], _ => rfl
  have glf_law_zip := PySem.W.mg_of X G af_law_zip
  have Ff_law_sort := fun_mk (st := s_law_sort) lf_law_sort cf_law_sort kf_law_sort
  have bf_law_sort := Ff_law_sort.binds (ps := ["store", "number", "parts"]) fun _ _ _ _ _ _ us hl => match us, hl with | [_, _, _], _ => rfl
  have glf_law_sort := PySem.W.mg_of X G af_law_sort
  have Ff_law_extend := fun_mk (st := s_law_extend) lf_law_extend cf_law_extend kf_law_extend
  have bf_law_extend := Ff_law_extend.binds (ps := ["store", "number", "other", "parts", "others"]) fun _ _ _ _ _ _ us hl => match us, hl with | [_, _, _, _, _], _ => rfl
  have glf_law_extend := PySem.W.mg_of X G af_law_extend
  have Flaw := fun_mk (st := s_law) llaw claw klaw
  have gllaw := PySem.W.mg_of X G alaw
  have Ff_Ref_init := fun_mk (st := s_Ref_init) lf_Ref_init cf_Ref_init kf_Ref_init
  have bf_Ref_init := Ff_Ref_init.binds (ps := ["self", "number"]) fun _ _ _ _ _ _ us hl => match us, hl with | [_, _], _ => rfl
  have Kf_Ref_init : Mk K cRef a_Ref_init := ⟨mkRef, af_Ref_init, if_Ref_init, kcRef⟩
  have Ff_Ref_eq := fun_mk (st := s_Ref_eq) lf_Ref_eq cf_Ref_eq kf_Ref_eq
  have bf_Ref_eq := Ff_Ref_eq.binds (ps := ["self", "other"]) fun _ _ _ _ _ _ us hl => match us, hl with | [_, _], _ => rfl
  have Mf_Ref_eq : Meth K cRef "__eq__" a_Ref_eq := ⟨af_Ref_eq, if_Ref_eq, kf_Ref_eq⟩
  have Ff_Builtin_init := fun_mk (st := s_Builtin_init) lf_Builtin_init cf_Builtin_init kf_Builtin_init
  have bf_Builtin_init := Ff_Builtin_init.binds (ps := ["self", "name"]) fun _ _ _ _ _ _ us hl => match us, hl with | [_, _], _ => rfl
  have Kf_Builtin_init : Mk K cBuiltin a_Builtin_init := ⟨mkBuiltin, af_Builtin_init, if_Builtin_init, kcBuiltin⟩
  have Ff_Builtin_eq := fun_mk (st := s_Builtin_eq) lf_Builtin_eq cf_Builtin_eq kf_Builtin_eq
  have bf_Builtin_eq := Ff_Builtin_eq.binds (ps := ["self", "other"]) fun _ _ _ _ _ _ us hl => match us, hl with | [_, _], _ => rfl
  have Mf_Builtin_eq : Meth K cBuiltin "__eq__" a_Builtin_eq := ⟨af_Builtin_eq, if_Builtin_eq, kf_Builtin_eq⟩
  have Ff_Parts_init := fun_mk (st := s_Parts_init) lf_Parts_init cf_Parts_init kf_Parts_init
  have bf_Parts_init := Ff_Parts_init.binds (ps := ["self", "held"]) fun _ _ _ _ _ _ us hl => match us, hl with | [_, _], _ => rfl
  have Kf_Parts_init : Mk K cParts a_Parts_init := ⟨mkParts, af_Parts_init, if_Parts_init, kcParts⟩
  have Ff_Table_pairs := fun_mk (st := s_Table_pairs) lf_Table_pairs cf_Table_pairs kf_Table_pairs
  have bf_Table_pairs := Ff_Table_pairs.binds (ps := ["self"]) fun _ _ _ _ _ _ us hl => match us, hl with | [_], _ => rfl
  have Mf_Table_pairs : Meth K cTable "pairs" a_Table_pairs := ⟨af_Table_pairs, if_Table_pairs, kf_Table_pairs⟩
  have Ff_Kin_init := fun_mk (st := s_Kin_init) lf_Kin_init cf_Kin_init kf_Kin_init
  have bf_Kin_init := Ff_Kin_init.binds (ps := ["self", "name", "parent"]) fun _ _ _ _ _ _ us hl => match us, hl with | [_, _, _], _ => rfl
  have Kf_Kin_init : Mk K cKin a_Kin_init := ⟨mkKin, af_Kin_init, if_Kin_init, kcKin⟩
  have Ff_Form_init := fun_mk (st := s_Form_init) lf_Form_init cf_Form_init kf_Form_init
  have bf_Form_init := Ff_Form_init.binds (ps := ["self", "store", "most"]) fun _ _ _ _ _ _ us hl => match us, hl with | [_, _, _], _ => rfl
  have Kf_Form_init : Mk K cForm a_Form_init := ⟨mkForm, af_Form_init, if_Form_init, kcForm⟩
  have Ff_Form_add := fun_mk (st := s_Form_add) lf_Form_add cf_Form_add kf_Form_add
  have bf_Form_add := Ff_Form_add.binds (ps := ["self", "text"]) fun _ _ _ _ _ _ us hl => match us, hl with | [_, _], _ => rfl
  have Mf_Form_add : Meth K cForm "add" a_Form_add := ⟨af_Form_add, if_Form_add, kf_Form_add⟩
  have Ff_Form_is_enough := fun_mk (st := s_Form_is_enough) lf_Form_is_enough cf_Form_is_enough kf_Form_is_enough
  have bf_Form_is_enough := Ff_Form_is_enough.binds (ps := ["self"]) fun _ _ _ _ _ _ us hl => match us, hl with | [_], _ => rfl
  have Mf_Form_is_enough : Meth K cForm "is_enough" a_Form_is_enough := ⟨af_Form_is_enough, if_Form_is_enough, kf_Form_is_enough⟩
  have Ff_Store_init := fun_mk (st := s_Store_init) lf_Store_init cf_Store_init kf_Store_init
  have bf_Store_init := Ff_Store_init.binds (ps := ["self", "lines"]) fun _ _ _ _ _ _ us hl => match us, hl with | [_, _], _ => rfl
  have Kf_Store_init : Mk K cStore a_Store_init := ⟨mkStore, af_Store_init, if_Store_init, kcStore⟩
  have Ff_Store_make := fun_mk (st := s_Store_make) lf_Store_make cf_Store_make kf_Store_make
  have bf_Store_make := Ff_Store_make.binds (ps := ["self", "thing"]) fun _ _ _ _ _ _ us hl => match us, hl with | [_, _], _ => rfl
  have Mf_Store_make : Meth K cStore "make" a_Store_make := ⟨af_Store_make, if_Store_make, kf_Store_make⟩
  have Ff_Store_at := fun_mk (st := s_Store_at) lf_Store_at cf_Store_at kf_Store_at
  have bf_Store_at := Ff_Store_at.binds (ps := ["self", "ref"]) fun _ _ _ _ _ _ us hl => match us, hl with | [_, _], _ => rfl
  have Mf_Store_at : Meth K cStore "at" a_Store_at := ⟨af_Store_at, if_Store_at, kf_Store_at⟩
  have ciMOST_HELD : ∃ t, mg "MOST_HELD" = some (.int 1000 t) := ⟨_, PySem.W.mg_of X G qMOST_HELD⟩
  have ciDOUBTFUL_BITS : ∃ t, mg "DOUBTFUL_BITS" = some (.int 997 t) := ⟨_, PySem.W.mg_of X G qDOUBTFUL_BITS⟩
  have ciMOST_AROUND : ∃ t, mg "MOST_AROUND" = some (.int 10 t) := ⟨_, PySem.W.mg_of X G qMOST_AROUND⟩
  obtain ⟨L, eL0, eL1, eL2, eL3, eL4⟩ : ∃ L : Lib l.prog K mg ⟨cRef, cBuiltin, cParts, cTable, cInstance, cKin, cForm, cStore, cLivequillError, cScriptError⟩, L.join.f = a_join ∧ L.total.f = a_total ∧ L.sort.f = a_sort ∧ L.extend.f = a_extend ∧ L.pair_up.f = a_pair_up := ⟨⟨PySem.W.mg_none_of X G zrange, PySem.W.mg_none_of X G zlen, PySem.W.mg_none_of X G zint, PySem.W.mg_none_of X G zstr, PySem.W.mg_none_of X G zbool, PySem.W.mg_none_of X G zisinstance, PySem.W.mg_none_of X G zlist, PySem.W.mg_none_of X G zabs, PySem.W.mg_none_of X G zmin, PySem.W.mg_none_of X G zenumerate, PySem.W.mg_none_of X G zzip, PySem.W.mg_none_of X G zsorted, PySem.W.mg_none_of X G zsum, ⟨KlRef, PySem.W.mg_of X G uRef, tyRef⟩, nRef_number, ⟨KlBuiltin, PySem.W.mg_of X G uBuiltin, tyBuiltin⟩, nBuiltin_name, ⟨KlParts, PySem.W.mg_of X G uParts, tyParts⟩, nParts_held, ⟨KlTable, PySem.W.mg_of X G uTable, tyTable⟩, nTable__entries, ⟨KlInstance, PySem.W.mg_of X G uInstance, tyInstance⟩, nInstance_owner, ⟨KlKin, PySem.W.mg_of X G uKin, tyKin⟩, nKin_name, nKin_parent, nKin_methods, ⟨KlForm, PySem.W.mg_of X G uForm, tyForm⟩, nForm_store, nForm_most, nForm_pieces, nForm_size, nForm_around, ⟨KlStore, PySem.W.mg_of X G uStore, tyStore⟩, nStore_things, nStore_output, nStore_lines, nStore_taken, ⟨PySem.W.mg_of X G uLivequillError⟩, ⟨_, _, TScriptError, fun _ _ => ok_SE liScriptError ciScriptError TScriptError UScriptError, bScriptError, PySem.W.mg_of X G uScriptError, ecScriptError⟩, klScriptErrorLivequillError, k_Ref_Builtin, k_Ref_bool, k_Ref_int, k_Ref_str, k_Builtin_Ref, k_Builtin_bool, k_Builtin_int, k_Builtin_str, k_Parts_Ref, k_Parts_Table, k_Parts_Instance, k_Parts_Kin, k_Parts_Builtin, k_Table_Ref, k_Table_Parts, k_Table_Instance, k_Table_Kin, k_Table_Builtin, k_Instance_Ref, k_Instance_Parts, k_Instance_Table, k_Instance_Kin, k_Instance_Builtin, k_Kin_Ref, k_Kin_Parts, k_Kin_Table, k_Kin_Instance, k_Kin_Builtin, k_Form_Ref, k_Form_Builtin, k_Store_Ref, k_Store_Parts, k_Store_Builtin, k_NoneType_Ref, k_NoneType_Parts, k_NoneType_Table, k_NoneType_Instance, k_NoneType_Kin, k_NoneType_Builtin, k_bool_Ref, k_bool_Builtin, k_int_Ref, k_int_Builtin, k_str_Ref, k_str_Builtin, nf_Ref_NoneType, su_Ref_NoneType, nf_Ref_int, su_Ref_int, nf_Ref_str, su_Ref_str, nf_Ref_Builtin, nf_Builtin_NoneType, su_Builtin_NoneType, nf_Builtin_int, su_Builtin_int, nf_Builtin_str, su_Builtin_str, nf_Builtin_Ref, ciMOST_HELD, ciDOUBTFUL_BITS, ciMOST_AROUND, ⟨_, _, Ff_kind_of, bf_kind_of, glf_kind_of⟩, ⟨_, _, Ff_kind_of_thing, bf_kind_of_thing, glf_kind_of_thing⟩, ⟨_, _, Ff_is_key, bf_is_key, glf_is_key⟩, ⟨_, _, Ff_check_size, bf_check_size, glf_check_size⟩, ⟨_, _, Ff_is_bounded, bf_is_bounded, glf_is_bounded⟩, ⟨_, _, Ff_checked_integer, bf_checked_integer, glf_checked_integer⟩, ⟨_, _, Ff_check_count, bf_check_count, glf_check_count⟩, ⟨_, _, Ff_check_arguments, bf_check_arguments, glf_check_arguments⟩, ⟨_, _, Ff_check_kind, bf_check_kind, glf_check_kind⟩, ⟨_, _, Ff_check_alike, bf_check_alike, glf_check_alike⟩, ⟨_, _, Ff_refuse_field, bf_refuse_field, glf_refuse_field⟩, ⟨_, _, Ff_make_list, bf_make_list, glf_make_list⟩, ⟨_, _, Ff_quoted, bf_quoted, glf_quoted⟩, ⟨_, _, Ff_write_value, bf_write_value, glf_write_value⟩, ⟨_, _, Ff_text_of, bf_text_of, glf_text_of⟩, ⟨_, _, Ff_write, bf_write, glf_write⟩, ⟨_, _, Ff_write_around, bf_write_around, glf_write_around⟩, ⟨_, _, Ff_write_held, bf_write_held, glf_write_held⟩, ⟨_, _, Ff_held_by, bf_held_by, glf_held_by⟩, ⟨_, _, Ff_plain_form, bf_plain_form, glf_plain_form⟩, ⟨_, _, Ff_join, bf_join, glf_join⟩, ⟨_, _, Ff_joined, bf_joined, glf_joined⟩, ⟨_, _, Ff_sort, bf_sort, glf_sort⟩, ⟨_, _, Ff_extend, bf_extend, glf_extend⟩, ⟨_, _, Ff_total, bf_total, glf_total⟩, ⟨_, _, Ff_pair_up, bf_pair_up, glf_pair_up⟩, ⟨_, _, Ff_make_pairs, bf_make_pairs, glf_make_pairs⟩, ⟨_, _, Ff_call_method, bf_call_method, glf_call_method⟩, ⟨_, _, Ff_method_for, bf_method_for, glf_method_for⟩, ⟨_, _, Ff_law_rows, bf_law_rows, glf_law_rows⟩, ⟨_, _, Ff_law_draw, bf_law_draw, glf_law_draw⟩, ⟨_, _, Ff_law_greatest, bf_law_greatest, glf_law_greatest⟩, ⟨_, _, Ff_law_integer, bf_law_integer, glf_law_integer⟩, ⟨_, _, Ff_law_word, bf_law_word, glf_law_word⟩, ⟨_, _, Ff_law_part, bf_law_part, glf_law_part⟩, ⟨_, _, Ff_law_parts, bf_law_parts, glf_law_parts⟩, ⟨_, _, Ff_law_call, bf_law_call, glf_law_call⟩, ⟨_, _, Ff_law_kind, bf_law_kind, glf_law_kind⟩, ⟨_, _, Ff_law_same, bf_law_same, glf_law_same⟩, ⟨_, _, Ff_law_ordered, bf_law_ordered, glf_law_ordered⟩, ⟨_, _, Ff_law_joined, bf_law_joined, glf_law_joined⟩, ⟨_, _, Ff_law_join, bf_law_join, glf_law_join⟩, ⟨_, _, Ff_law_sum, bf_law_sum, glf_law_sum⟩, ⟨_, _, Ff_law_zip, bf_law_zip, glf_law_zip⟩, ⟨_, _, Ff_law_sort, bf_law_sort, glf_law_sort⟩, ⟨_, _, Ff_law_extend, bf_law_extend, glf_law_extend⟩, ⟨_, _, Ff_Ref_init, bf_Ref_init, Kf_Ref_init⟩, ⟨_, _, Ff_Ref_eq, bf_Ref_eq, ⟨af_Ref_eq, if_Ref_eq⟩⟩, ⟨_, _, Ff_Builtin_init, bf_Builtin_init, Kf_Builtin_init⟩, ⟨_, _, Ff_Builtin_eq, bf_Builtin_eq, ⟨af_Builtin_eq, if_Builtin_eq⟩⟩, ⟨_, _, Ff_Parts_init, bf_Parts_init, Kf_Parts_init⟩, ⟨_, _, Ff_Table_pairs, bf_Table_pairs, Mf_Table_pairs⟩, ⟨_, _, Ff_Kin_init, bf_Kin_init, Kf_Kin_init⟩, ⟨_, _, Ff_Form_init, bf_Form_init, Kf_Form_init⟩, ⟨_, _, Ff_Form_add, bf_Form_add, Mf_Form_add⟩, ⟨_, _, Ff_Form_is_enough, bf_Form_is_enough, Mf_Form_is_enough⟩, ⟨_, _, Ff_Store_init, bf_Store_init, Kf_Store_init⟩, ⟨_, _, Ff_Store_make, bf_Store_make, Mf_Store_make⟩, ⟨_, _, Ff_Store_at, bf_Store_at, Mf_Store_at⟩⟩, rfl, rfl, rfl, rfl, rfl⟩
  have D : Fd w L := ⟨aLM, _, _, ⟨ldLM, kdLM, lowLM⟩, PySem.W.mg_of X G udLM, fun c => match c with
    | .join _ => ⟨tA0, qA0, nd0, fun H => by show SqT K H tA0 [.ref L.join.f, .ref qA0]; rw [eL0]; exact .inr ⟨_, _, _, lt0, rfl, rfl, st0, vt0⟩, fun H => .inr ⟨_, _, _, lq0, rfl, rfl, sq0, vq0⟩⟩
    | .sum => ⟨tA1, qA1, nd1, fun H => by show SqT K H tA1 [.ref L.total.f, .ref qA1]; rw [eL1]; exact .inr ⟨_, _, _, lt1, rfl, rfl, st1, vt1⟩, fun H => .inr ⟨_, _, _, lq1, rfl, rfl, sq1, vq1⟩⟩
    | .sort => ⟨tA2, qA2, nd2, fun H => by show SqT K H tA2 [.ref L.sort.f, .ref qA2]; rw [eL2]; exact .inr ⟨_, _, _, lt2, rfl, rfl, st2, vt2⟩, fun H => .inr ⟨_, _, _, lq2, rfl, rfl, sq2, vq2⟩⟩
    | .extend _ => ⟨tA3, qA3, nd3, fun H => by show SqT K H tA3 [.ref L.extend.f, .ref qA3]; rw [eL3]; exact .inr ⟨_, _, _, lt3, rfl, rfl, st3, vt3⟩, fun H => .inr ⟨_, _, _, lq3, rfl, rfl, sq3, vq3⟩⟩
    | .zip _ => ⟨tA4, qA4, nd4, fun H => by show SqT K H tA4 [.ref L.pair_up.f, .ref qA4]; rw [eL4]; exact .inr ⟨_, _, _, lt4, rfl, rfl, st4, vt4⟩, fun H => .inr ⟨_, _, _, lq4, rfl, rfl, sq4, vq4⟩⟩⟩
  exact ⟨PySem.W.fnOf "law" "law" (defArgs s_law) (defBody s_law) (defScope s_law) .none kVlaw dclaw pmlaw anlaw cdlaw ctlaw, fun s v => .of_eq rfl, fun base _ _ => ok_law Flaw L D⟩
end My
namespace PySem.W.Fast
def tw90343872475197607 : Type := PySem.Params
theorem te90343872475197607 : PySem.Params = tw90343872475197607 := rfl
end PySem.W.Fast
open PySem PySem.W PyProof.Rows
set_option maxRecDepth 100000 in
set_option maxHeartbeats 0 in
theorem PySem.Challenge.cw_livequill_k33_lists_sorted_and_joined_holds : PySem.Challenge.rw_livequill_k33_lists_sorted_and_joined.Holds := by
  w_on; o_law; k_head; (case hw => w_witness2)
  k_fill
  refine L2.walk_of (l := PySem.Challenge.rw_livequill_k33_lists_sorted_and_joined) (n := 63) (k := 46) (x := "script") (CX := fun _ => L2.CX0) (sp := fun w => My.spLaw _) rfl (by decide) rfl ⟨rfl, by decide, by decide⟩ (fun w h Y => PySem.W.kIn_of Y) ?F (fun _ _ a ns hl _ hS => ⟨a, ns, rfl, hS, hl, fun _ => rfl⟩) (fun _ _ _ _ _ h => h)
  case F =>
    intro w mg fa h KX G hmg
    refine' My.all_mk KX G hmg ?uRef ?mkRef ?kcRef ?pgRef ?hdRef ?poRef ?saRef ?nRef_number ?hnTy ?htTy ?haRef ?hmRef ?uBuiltin ?mkBuiltin ?kcBuiltin ?pgBuiltin ?hdBuiltin ?poBuiltin ?saBuiltin ?nBuiltin_name ?haBuiltin ?hmBuiltin ?uParts ?mkParts ?kcParts ?pgParts ?hdParts ?poParts ?saParts ?nParts_held ?haParts ?hmParts ?uTable ?mkTable ?kcTable ?pgTable ?hdTable ?poTable ?saTable ?nTable__entries ?haTable ?hmTable ?uInstance ?mkInstance ?kcInstance ?pgInstance ?hdInstance ?poInstance ?saInstance ?nInstance_owner ?haInstance ?hmInstance ?uKin ?mkKin ?kcKin ?pgKin ?hdKin ?poKin ?saKin ?nKin_name ?nKin_parent ?nKin_methods ?haKin ?hmKin ?uForm ?mkForm ?kcForm ?pgForm ?hdForm ?poForm ?saForm ?nForm_store ?nForm_most ?nForm_pieces ?nForm_size ?nForm_around ?haForm ?hmForm ?uStore ?mkStore ?kcStore ?pgStore ?hdStore ?poStore ?saStore ?nStore_things ?nStore_output ?nStore_lines ?nStore_taken ?haStore ?hmStore ?uLivequillError ?uScriptError ?xScriptError ?saScriptError ?exScriptError ?tpScriptError ?kpScriptError ?n1ScriptError ?n2ScriptError ?iScriptError ?tiScriptError ?gaScriptError ?ggScriptError ?hdScriptError ?ssScriptError ?liScriptError ?ciScriptError ?coScriptError ?cvScriptError ?fiScriptError ?ceScriptError ?toSup ?suSup ?opSup ?mrScriptError ?ksScriptError ?vaScriptError ?haScriptError ?hmScriptError ?klScriptErrorLivequillError ?af_kind_of ?lf_kind_of ?cf_kind_of ?kf_kind_of ?af_kind_of_thing ?lf_kind_of_thing ?cf_kind_of_thing ?kf_kind_of_thing ?af_is_key ?lf_is_key ?cf_is_key ?kf_is_key ?af_check_size ?lf_check_size ?cf_check_size ?kf_check_size ?af_is_bounded ?lf_is_bounded ?cf_is_bounded ?kf_is_bounded ?af_checked_integer ?lf_checked_integer ?cf_checked_integer ?kf_checked_integer ?af_check_count ?lf_check_count ?cf_check_count ?kf_check_count ?af_check_arguments ?lf_check_arguments ?cf_check_arguments ?kf_check_arguments ?af_check_kind ?lf_check_kind ?cf_check_kind ?kf_check_kind ?af_check_alike ?lf_check_alike ?cf_check_alike ?kf_check_alike ?af_refuse_field ?lf_refuse_field ?cf_refuse_field ?kf_refuse_field ?af_make_list ?lf_make_list ?cf_make_list ?kf_make_list ?af_quoted ?lf_quoted ?cf_quoted ?kf_quoted ?af_write_value ?lf_write_value ?cf_write_value ?kf_write_value ?af_text_of ?lf_text_of ?cf_text_of ?kf_text_of ?af_write ?lf_write ?cf_write ?kf_write ?af_write_around ?lf_write_around ?cf_write_around ?kf_write_around ?af_write_held ?lf_write_held ?cf_write_held ?kf_write_held ?af_held_by ?lf_held_by ?cf_held_by ?kf_held_by ?af_plain_form ?lf_plain_form ?cf_plain_form ?kf_plain_form ?af_join ?lf_join ?cf_join ?kf_join ?af_joined ?lf_joined ?cf_joined ?kf_joined ?af_sort ?lf_sort ?cf_sort ?kf_sort ?af_extend ?lf_extend ?cf_extend ?kf_extend ?af_total ?lf_total ?cf_total ?kf_total ?af_pair_up ?lf_pair_up ?cf_pair_up ?kf_pair_up ?af_make_pairs ?lf_make_pairs ?cf_make_pairs ?kf_make_pairs ?af_call_method ?lf_call_method ?cf_call_method ?kf_call_method ?af_method_for ?lf_method_for ?cf_method_for ?kf_method_for ?af_law_rows ?lf_law_rows ?cf_law_rows ?kf_law_rows ?af_law_draw ?lf_law_draw ?cf_law_draw ?kf_law_draw ?af_law_greatest ?lf_law_greatest ?cf_law_greatest ?kf_law_greatest ?af_law_integer ?lf_law_integer ?cf_law_integer ?kf_law_integer ?af_law_word ?lf_law_word ?cf_law_word ?kf_law_word ?af_law_part ?lf_law_part ?cf_law_part ?kf_law_part ?af_law_parts ?lf_law_parts ?cf_law_parts ?kf_law_parts ?af_law_call ?lf_law_call ?cf_law_call ?kf_law_call ?af_law_kind ?lf_law_kind ?cf_law_kind ?kf_law_kind ?af_law_same ?lf_law_same ?cf_law_same ?kf_law_same ?af_law_ordered ?lf_law_ordered ?cf_law_ordered ?kf_law_ordered ?af_law_joined ?lf_law_joined ?cf_law_joined ?kf_law_joined ?af_law_join ?lf_law_join ?cf_law_join ?kf_law_join ?af_law_sum ?lf_law_sum ?cf_law_sum ?kf_law_sum ?af_law_zip ?lf_law_zip ?cf_law_zip ?kf_law_zip ?af_law_sort ?lf_law_sort ?cf_law_sort ?kf_law_sort ?af_law_extend ?lf_law_extend ?cf_law_extend ?kf_law_extend ?alaw ?llaw ?claw ?klaw ?af_Ref_init ?if_Ref_init ?lf_Ref_init ?cf_Ref_init ?kf_Ref_init ?af_Ref_eq ?if_Ref_eq ?lf_Ref_eq ?cf_Ref_eq ?kf_Ref_eq ?af_Builtin_init ?if_Builtin_init ?lf_Builtin_init ?cf_Builtin_init ?kf_Builtin_init ?af_Builtin_eq ?if_Builtin_eq ?lf_Builtin_eq ?cf_Builtin_eq ?kf_Builtin_eq ?af_Parts_init ?if_Parts_init ?lf_Parts_init ?cf_Parts_init ?kf_Parts_init ?af_Table_pairs ?if_Table_pairs ?lf_Table_pairs ?cf_Table_pairs ?kf_Table_pairs ?af_Kin_init ?if_Kin_init ?lf_Kin_init ?cf_Kin_init ?kf_Kin_init ?af_Form_init ?if_Form_init ?lf_Form_init ?cf_Form_init ?kf_Form_init ?af_Form_add ?if_Form_add ?lf_Form_add ?cf_Form_add ?kf_Form_add ?af_Form_is_enough ?if_Form_is_enough ?lf_Form_is_enough ?cf_Form_is_enough ?kf_Form_is_enough ?af_Store_init ?if_Store_init ?lf_Store_init ?cf_Store_init ?kf_Store_init ?af_Store_make ?if_Store_make ?lf_Store_make ?cf_Store_make ?kf_Store_make ?af_Store_at ?if_Store_at ?lf_Store_at ?cf_Store_at ?kf_Store_at ?qMOST_HELD ?qDOUBTFUL_BITS ?qMOST_AROUND ?k_Ref_Builtin ?k_Ref_bool ?k_Ref_int ?k_Ref_str ?k_Builtin_Ref ?k_Builtin_bool ?k_Builtin_int ?k_Builtin_str ?k_Parts_Ref ?k_Parts_Table ?k_Parts_Instance ?k_Parts_Kin ?k_Parts_Builtin ?k_Table_Ref ?k_Table_Parts ?k_Table_Instance ?k_Table_Kin ?k_Table_Builtin ?k_Instance_Ref ?k_Instance_Parts ?k_Instance_Table ?k_Instance_Kin ?k_Instance_Builtin ?k_Kin_Ref ?k_Kin_Parts ?k_Kin_Table ?k_Kin_Instance ?k_Kin_Builtin ?k_Form_Ref ?k_Form_Builtin ?k_Store_Ref ?k_Store_Parts ?k_Store_Builtin ?k_NoneType_Ref ?k_NoneType_Parts ?k_NoneType_Table ?k_NoneType_Instance ?k_NoneType_Kin ?k_NoneType_Builtin ?k_bool_Ref ?k_bool_Builtin ?k_int_Ref ?k_int_Builtin ?k_str_Ref ?k_str_Builtin ?nf_Ref_NoneType ?su_Ref_NoneType ?nf_Ref_int ?su_Ref_int ?nf_Ref_str ?su_Ref_str ?nf_Ref_Builtin ?nf_Builtin_NoneType ?su_Builtin_NoneType ?nf_Builtin_int ?su_Builtin_int ?nf_Builtin_str ?su_Builtin_str ?nf_Builtin_Ref ?zrange ?zlen ?zint ?zstr ?zbool ?zisinstance ?zlist ?zabs ?zmin ?zenumerate ?zzip ?zsorted ?zsum ?udLM ?ldLM ?kdLM ?lowLM ?nd0 ?lt0 ?vt0 ?st0 ?lq0 ?vq0 ?sq0 ?nd1 ?lt1 ?vt1 ?st1 ?lq1 ?vq1 ?sq1 ?nd2 ?lt2 ?vt2 ?st2 ?lq2 ?vq2 ?sq2 ?nd3 ?lt3 ?vt3 ?st3 ?lq3 ?vq3 ?sq3 ?nd4 ?lt4 ?vt4 ?st4 ?lq4 ?vq4 ?sq4
    (case uRef => k_is)
    (case mkRef => k_is)
    (case kcRef => k_is)
    (case pgRef => k_is)
    (case hdRef => k_is)
    (case poRef => k_is)
    (case saRef => k_is)
    (case nRef_number => k_is)
    (case hnTy => k_is)
    (case htTy => k_is)
    (case haRef => k_is)
    (case hmRef => k_is)
    (case uBuiltin => k_is)
    (case mkBuiltin => k_is)
    (case kcBuiltin => k_is)
    (case pgBuiltin => k_is)
    (case hdBuiltin => k_is)
    (case poBuiltin => k_is)
    (case saBuiltin => k_is)
    (case nBuiltin_name => k_is)
    (case haBuiltin => k_is)
    (case hmBuiltin => k_is)
    (case uParts => k_is)
    (case mkParts => k_is)
    (case kcParts => k_is)
    (case pgParts => k_is)
    (case hdParts => k_is)
    (case poParts => k_is)
    (case saParts => k_is)
    (case nParts_held => k_is)
    (case haParts => k_is)
    (case hmParts => k_is)
    (case uTable => k_is)
    (case mkTable => k_is)
    (case kcTable => k_is)
    (case pgTable => k_is)
    (case hdTable => k_is)
    (case poTable => k_is)
    (case saTable => k_is)
    (case nTable__entries => k_is)
    (case haTable => k_is)
    (case hmTable => k_is)
    (case uInstance => k_is)
    (case mkInstance => k_is)
    (case kcInstance => k_is)
    (case pgInstance => k_is)
    (case hdInstance => k_is)
    (case poInstance => k_is)
    (case saInstance => k_is)
    (case nInstance_owner => k_is)
    (case haInstance => k_is)
    (case hmInstance => k_is)
    (case uKin => k_is)
    (case mkKin => k_is)
    (case kcKin => k_is)
    (case pgKin => k_is)
    (case hdKin => k_is)
    (case poKin => k_is)
    (case saKin => k_is)
    (case nKin_name => k_is)
    (case nKin_parent => k_is)
    (case nKin_methods => k_is)
    (case haKin => k_is)
    (case hmKin => k_is)
    (case uForm => k_is)
    (case mkForm => k_is)
    (case kcForm => k_is)
    (case pgForm => k_is)
    (case hdForm => k_is)
    (case poForm => k_is)
    (case saForm => k_is)
    (case nForm_store => k_is)
    (case nForm_most => k_is)
    (case nForm_pieces => k_is)
    (case nForm_size => k_is)
    (case nForm_around => k_is)
    (case haForm => k_is)
    (case hmForm => k_is)
    (case uStore => k_is)
    (case mkStore => k_is)
    (case kcStore => k_is)
    (case pgStore => k_is)
    (case hdStore => k_is)
    (case poStore => k_is)
    (case saStore => k_is)
    (case nStore_things => k_is)
    (case nStore_output => k_is)
    (case nStore_lines => k_is)
    (case nStore_taken => k_is)
    (case haStore => k_is)
    (case hmStore => k_is)
    (case uLivequillError => k_is)
    (case uScriptError => k_is)
    (case xScriptError => k_is)
    (case saScriptError => k_is)
    (case exScriptError => k_is)
    (case tpScriptError => k_is)
    (case kpScriptError => k_is)
    (case n1ScriptError => k_is)
    (case n2ScriptError => k_is)
    (case iScriptError => k_is)
    (case tiScriptError => k_is)
    (case gaScriptError => k_is)
    (case ggScriptError => k_is)
    (case hdScriptError => k_is)
    (case ssScriptError => first | rfl | k_is)
    (case liScriptError => k_is)
    (case ciScriptError => k_is)
    (case coScriptError => k_is)
    (case cvScriptError => rfl)
    (case fiScriptError => first | rfl | decide +kernel)
    (case ceScriptError => k_is)
    (case toSup => first | rfl | decide +kernel)
    (case suSup => k_is)
    (case opSup => k_is)
    (case mrScriptError => k_is)
    (case ksScriptError => ks_is)
    (case vaScriptError => k_is)
    (case haScriptError => k_is)
    (case hmScriptError => k_is)
    (case klScriptErrorLivequillError => kit_is)
    (case af_kind_of => k_is)
    (case lf_kind_of => k_is)
    (case cf_kind_of => k_is)
    (case kf_kind_of => k_is)
    (case af_kind_of_thing => k_is)
    (case lf_kind_of_thing => k_is)
    (case cf_kind_of_thing => k_is)
    (case kf_kind_of_thing => k_is)
    (case af_is_key => k_is)
    (case lf_is_key => k_is)
    (case cf_is_key => k_is)
    (case kf_is_key => k_is)
    (case af_check_size => k_is)
    (case lf_check_size => k_is)
    (case cf_check_size => k_is)
    (case kf_check_size => k_is)
    (case af_is_bounded => k_is)
    (case lf_is_bounded => k_is)
    (case cf_is_bounded => k_is)
    (case kf_is_bounded => k_is)
    (case af_checked_integer => k_is)
    (case lf_checked_integer => k_is)
    (case cf_checked_integer => k_is)
    (case kf_checked_integer => k_is)
    (case af_check_count => k_is)
    (case lf_check_count => k_is)
    (case cf_check_count => k_is)
    (case kf_check_count => k_is)
    (case af_check_arguments => k_is)
    (case lf_check_arguments => k_is)
    (case cf_check_arguments => k_is)
    (case kf_check_arguments => k_is)
    (case af_check_kind => k_is)
    (case lf_check_kind => k_is)
    (case cf_check_kind => k_is)
    (case kf_check_kind => k_is)
    (case af_check_alike => k_is)
    (case lf_check_alike => k_is)
    (case cf_check_alike => k_is)
    (case kf_check_alike => k_is)
    (case af_refuse_field => k_is)
    (case lf_refuse_field => k_is)
    (case cf_refuse_field => k_is)
    (case kf_refuse_field => k_is)
    (case af_make_list => k_is)
    (case lf_make_list => k_is)
    (case cf_make_list => k_is)
    (case kf_make_list => k_is)
    (case af_quoted => k_is)
    (case lf_quoted => k_is)
    (case cf_quoted => k_is)
    (case kf_quoted => k_is)
    (case af_write_value => k_is)
    (case lf_write_value => k_is)
    (case cf_write_value => k_is)
    (case kf_write_value => k_is)
    (case af_text_of => k_is)
    (case lf_text_of => k_is)
    (case cf_text_of => k_is)
    (case kf_text_of => k_is)
    (case af_write => k_is)
    (case lf_write => k_is)
    (case cf_write => k_is)
    (case kf_write => k_is)
    (case af_write_around => k_is)
    (case lf_write_around => k_is)
    (case cf_write_around => k_is)
    (case kf_write_around => k_is)
    (case af_write_held => k_is)
    (case lf_write_held => k_is)
    (case cf_write_held => k_is)
    (case kf_write_held => k_is)
    (case af_held_by => k_is)
    (case lf_held_by => k_is)
    (case cf_held_by => k_is)
    (case kf_held_by => k_is)
    (case af_plain_form => k_is)
    (case lf_plain_form => k_is)
    (case cf_plain_form => k_is)
    (case kf_plain_form => k_is)
    (case af_join => k_is)
    (case lf_join => k_is)
    (case cf_join => k_is)
    (case kf_join => k_is)
    (case af_joined => k_is)
    (case lf_joined => k_is)
    (case cf_joined => k_is)
    (case kf_joined => k_is)
    (case af_sort => k_is)
    (case lf_sort => k_is)
    (case cf_sort => k_is)
    (case kf_sort => k_is)
    (case af_extend => k_is)
    (case lf_extend => k_is)
    (case cf_extend => k_is)
    (case kf_extend => k_is)
    (case af_total => k_is)
    (case lf_total => k_is)
    (case cf_total => k_is)
    (case kf_total => k_is)
    (case af_pair_up => k_is)
    (case lf_pair_up => k_is)
    (case cf_pair_up => k_is)
    (case kf_pair_up => k_is)
    (case af_make_pairs => k_is)
    (case lf_make_pairs => k_is)
    (case cf_make_pairs => k_is)
    (case kf_make_pairs => k_is)
    (case af_call_method => k_is)
    (case lf_call_method => k_is)
    (case cf_call_method => k_is)
    (case kf_call_method => k_is)
    (case af_method_for => k_is)
    (case lf_method_for => k_is)
    (case cf_method_for => k_is)
    (case kf_method_for => k_is)
    (case af_law_rows => k_is)
    (case lf_law_rows => k_is)
    (case cf_law_rows => k_is)
    (case kf_law_rows => k_is)
    (case af_law_draw => k_is)
    (case lf_law_draw => k_is)
    (case cf_law_draw => k_is)
    (case kf_law_draw => k_is)
    (case af_law_greatest => k_is)
    (case lf_law_greatest => k_is)
    (case cf_law_greatest => k_is)
    (case kf_law_greatest => k_is)
    (case af_law_integer => k_is)
    (case lf_law_integer => k_is)
    (case cf_law_integer => k_is)
    (case kf_law_integer => k_is)
    (case af_law_word => k_is)
    (case lf_law_word => k_is)
    (case cf_law_word => k_is)
    (case kf_law_word => k_is)
    (case af_law_part => k_is)
    (case lf_law_part => k_is)
    (case cf_law_part => k_is)
    (case kf_law_part => k_is)
    (case af_law_parts => k_is)
    (case lf_law_parts => k_is)
    (case cf_law_parts => k_is)
    (case kf_law_parts => k_is)
    (case af_law_call => k_is)
    (case lf_law_call => k_is)
    (case cf_law_call => k_is)
    (case kf_law_call => k_is)
    (case af_law_kind => k_is)
    (case lf_law_kind => k_is)
    (case cf_law_kind => k_is)
    (case kf_law_kind => k_is)
    (case af_law_same => k_is)
    (case lf_law_same => k_is)
    (case cf_law_same => k_is)
    (case kf_law_same => k_is)
    (case af_law_ordered => k_is)
    (case lf_law_ordered => k_is)
    (case cf_law_ordered => k_is)
    (case kf_law_ordered => k_is)
    (case af_law_joined => k_is)
    (case lf_law_joined => k_is)
    (case cf_law_joined => k_is)
    (case kf_law_joined => k_is)
    (case af_law_join => k_is)
    (case lf_law_join => k_is)
    (case cf_law_join => k_is)
    (case kf_law_join => k_is)
    (case af_law_sum => k_is)
    (case lf_law_sum => k_is)
    (case cf_law_sum => k_is)
    (case kf_law_sum => k_is)
    (case af_law_zip => k_is)
    (case lf_law_zip => k_is)
    (case cf_law_zip => k_is)
    (case kf_law_zip => k_is)
    (case af_law_sort => k_is)
    (case lf_law_sort => k_is)
    (case cf_law_sort => k_is)
    (case kf_law_sort => k_is)
    (case af_law_extend => k_is)
    (case lf_law_extend => k_is)
    (case cf_law_extend => k_is)
    (case kf_law_extend => k_is)
    (case alaw => k_is)
    (case llaw => k_is)
    (case claw => k_is)
    (case klaw => k_is)
    (case af_Ref_init => k_is)
    (case if_Ref_init => k_is)
    (case lf_Ref_init => k_is)
    (case cf_Ref_init => k_is)
    (case kf_Ref_init => k_is)
    (case af_Ref_eq => k_is)
    (case if_Ref_eq => k_is)
    (case lf_Ref_eq => k_is)
    (case cf_Ref_eq => k_is)
    (case kf_Ref_eq => k_is)
    (case af_Builtin_init => k_is)
    (case if_Builtin_init => k_is)
    (case lf_Builtin_init => k_is)
    (case cf_Builtin_init => k_is)
    (case kf_Builtin_init => k_is)
    (case af_Builtin_eq => k_is)
    (case if_Builtin_eq => k_is)
    (case lf_Builtin_eq => k_is)
    (case cf_Builtin_eq => k_is)
    (case kf_Builtin_eq => k_is)
    (case af_Parts_init => k_is)
    (case if_Parts_init => k_is)
    (case lf_Parts_init => k_is)
    (case cf_Parts_init => k_is)
    (case kf_Parts_init => k_is)
    (case af_Table_pairs => k_is)
    (case if_Table_pairs => k_is)
    (case lf_Table_pairs => k_is)
    (case cf_Table_pairs => k_is)
    (case kf_Table_pairs => k_is)
    (case af_Kin_init => k_is)
    (case if_Kin_init => k_is)
    (case lf_Kin_init => k_is)
    (case cf_Kin_init => k_is)
    (case kf_Kin_init => k_is)
    (case af_Form_init => k_is)
    (case if_Form_init => k_is)
    (case lf_Form_init => k_is)
    (case cf_Form_init => k_is)
    (case kf_Form_init => k_is)
    (case af_Form_add => k_is)
    (case if_Form_add => k_is)
    (case lf_Form_add => k_is)
    (case cf_Form_add => k_is)
    (case kf_Form_add => k_is)
    (case af_Form_is_enough => k_is)
    (case if_Form_is_enough => k_is)
    (case lf_Form_is_enough => k_is)
    (case cf_Form_is_enough => k_is)
    (case kf_Form_is_enough => k_is)
    (case af_Store_init => k_is)
    (case if_Store_init => k_is)
    (case lf_Store_init => k_is)
    (case cf_Store_init => k_is)
    (case kf_Store_init => k_is)
    (case af_Store_make => k_is)
    (case if_Store_make => k_is)
    (case lf_Store_make => k_is)
    (case cf_Store_make => k_is)
    (case kf_Store_make => k_is)
    (case af_Store_at => k_is)
    (case if_Store_at => k_is)
    (case lf_Store_at => k_is)
    (case cf_Store_at => k_is)
    (case kf_Store_at => k_is)
    (case qMOST_HELD => k_is)
    (case qDOUBTFUL_BITS => k_is)
    (case qMOST_AROUND => k_is)
    (case k_Ref_Builtin => kit_is)
    (case k_Ref_bool => kit_is)
    (case k_Ref_int => kit_is)
    (case k_Ref_str => kit_is)
    (case k_Builtin_Ref => kit_is)
    (case k_Builtin_bool => kit_is)
    (case k_Builtin_int => kit_is)
    (case k_Builtin_str => kit_is)
    (case k_Parts_Ref => kit_is)
    (case k_Parts_Table => kit_is)
    (case k_Parts_Instance => kit_is)
    (case k_Parts_Kin => kit_is)
    (case k_Parts_Builtin => kit_is)
    (case k_Table_Ref => kit_is)
    (case k_Table_Parts => kit_is)
    (case k_Table_Instance => kit_is)
    (case k_Table_Kin => kit_is)
    (case k_Table_Builtin => kit_is)
    (case k_Instance_Ref => kit_is)
    (case k_Instance_Parts => kit_is)
    (case k_Instance_Table => kit_is)
    (case k_Instance_Kin => kit_is)
    (case k_Instance_Builtin => kit_is)
    (case k_Kin_Ref => kit_is)
    (case k_Kin_Parts => kit_is)
    (case k_Kin_Table => kit_is)
    (case k_Kin_Instance => kit_is)
    (case k_Kin_Builtin => kit_is)
    (case k_Form_Ref => kit_is)
    (case k_Form_Builtin => kit_is)
    (case k_Store_Ref => kit_is)
    (case k_Store_Parts => kit_is)
    (case k_Store_Builtin => kit_is)
    (case k_NoneType_Ref => kit_is)
    (case k_NoneType_Parts => kit_is)
    (case k_NoneType_Table => kit_is)
    (case k_NoneType_Instance => kit_is)
    (case k_NoneType_Kin => kit_is)
    (case k_NoneType_Builtin => kit_is)
    (case k_bool_Ref => kit_is)
    (case k_bool_Builtin => kit_is)
    (case k_int_Ref => kit_is)
    (case k_int_Builtin => kit_is)
    (case k_str_Ref => kit_is)
    (case k_str_Builtin => kit_is)
    (case nf_Ref_NoneType => k_is)
    (case su_Ref_NoneType => k_is)
    (case nf_Ref_int => k_is)
    (case su_Ref_int => k_is)
    (case nf_Ref_str => k_is)
    (case su_Ref_str => k_is)
    (case nf_Ref_Builtin => k_is)
    (case nf_Builtin_NoneType => k_is)
    (case su_Builtin_NoneType => k_is)
    (case nf_Builtin_int => k_is)
    (case su_Builtin_int => k_is)
    (case nf_Builtin_str => k_is)
    (case su_Builtin_str => k_is)
    (case nf_Builtin_Ref => k_is)
    (case zrange => k_is)
    (case zlen => k_is)
    (case zint => k_is)
    (case zstr => k_is)
    (case zbool => k_is)
    (case zisinstance => k_is)
    (case zlist => k_is)
    (case zabs => k_is)
    (case zmin => k_is)
    (case zenumerate => k_is)
    (case zzip => k_is)
    (case zsorted => k_is)
    (case zsum => k_is)
    (case udLM => k_is)
    (case ldLM => k_is)
    (case kdLM => repeat (first | exact trivial | refine ⟨⟨_, _, rfl, rfl⟩, ?_⟩))
    (case lowLM => first | rfl | decide +kernel)
    (case nd0 => k_is)
    (case lt0 => k_is)
    (case vt0 => exact PySem.Paired.cons rfl (PySem.Paired.cons rfl PySem.Paired.nil))
    (case st0 => (rw [sizeLine_eq]; decide))
    (case lq0 => k_is)
    (case vq0 => repeat (first | exact PySem.Paired.nil | refine PySem.Paired.cons ⟨_, rfl⟩ ?_))
    (case sq0 => (rw [sizeLine_eq]; decide))
    (case nd1 => k_is)
    (case lt1 => k_is)
    (case vt1 => exact PySem.Paired.cons rfl (PySem.Paired.cons rfl PySem.Paired.nil))
    (case st1 => (rw [sizeLine_eq]; decide))
    (case lq1 => k_is)
    (case vq1 => repeat (first | exact PySem.Paired.nil | refine PySem.Paired.cons ⟨_, rfl⟩ ?_))
    (case sq1 => (rw [sizeLine_eq]; decide))
    (case nd2 => k_is)
    (case lt2 => k_is)
    (case vt2 => exact PySem.Paired.cons rfl (PySem.Paired.cons rfl PySem.Paired.nil))
    (case st2 => (rw [sizeLine_eq]; decide))
    (case lq2 => k_is)
    (case vq2 => repeat (first | exact PySem.Paired.nil | refine PySem.Paired.cons ⟨_, rfl⟩ ?_))
    (case sq2 => (rw [sizeLine_eq]; decide))
    (case nd3 => k_is)
    (case lt3 => k_is)
    (case vt3 => exact PySem.Paired.cons rfl (PySem.Paired.cons rfl PySem.Paired.nil))
    (case st3 => (rw [sizeLine_eq]; decide))
    (case lq3 => k_is)
    (case vq3 => repeat (first | exact PySem.Paired.nil | refine PySem.Paired.cons ⟨_, rfl⟩ ?_))
    (case sq3 => (rw [sizeLine_eq]; decide))
    (case nd4 => k_is)
    (case lt4 => k_is)
    (case vt4 => exact PySem.Paired.cons rfl (PySem.Paired.cons rfl PySem.Paired.nil))
    (case st4 => (rw [sizeLine_eq]; decide))
    (case lq4 => k_is)
    (case vq4 => repeat (first | exact PySem.Paired.nil | refine PySem.Paired.cons ⟨_, rfl⟩ ?_))
    (case sq4 => (rw [sizeLine_eq]; decide))
