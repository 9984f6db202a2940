import PyProof.Rows.All
import Wide.All
import OpenK.AllK
import Wide.FinOn
import HandS.ForMost
import HandS.ForExc
import HandS.StrMore
import HandS.IsInst
import HandS.Codes
import HandS.Flow
import HandS.More
import HandS.Walk
import HandS.OwnEq
import HandS.Style
import PyProof.Raises
import KE.RegKIsAll
import KE.KSuper
import KE.KExcSuper
import KE.RegKSuper
import HandS.ExcInit
import HandS.Nested
import HandS.FStr
import HandS.ExcField
import HandS.ExcIs
import HandS.Wide
import HandS.WideBits
import HandS.Deep
import HandS.TupAny
import HandS.Defaults
import PySem.Challenge.RW_livequill_k37_flaws_of_straight_code
set_option Elab.async false
set_option linter.all false
set_option maxRecDepth 100000
namespace My
open PySem L2 SX
open C8 (pss_cut tCut cutS_slice pe_gc)
def top (i : Nat) : Stmt := PySem.Challenge.pw_livequill_k37_flaws_of_straight_code.main.body.getD i (.Pass ⟨0, 0, 0, 0⟩)
def Keep (p : Addr) (H H' : Hp) : Prop := ∀ b o, H b = some o → b ≠ p → H' b = some o
theorem Same.keep {p : Addr} {H H' : Hp} (s : Same H H') : Keep p H H' := fun b o e _ => s b o e
theorem Keep.trans {p : Addr} {H H1 H2 : Hp} (a : Keep p H H1) (b : Keep p H1 H2) : Keep p H H2 := fun c o e n => b c o (a c o e n) n
theorem keep_upd {p : Addr} {H : Hp} {o : HO} : Keep p H (upd H p o) := fun b x e n => by
  rw [upd_ne n]
  exact e
theorem same_upd {H : Hp} {p : Addr} {o : HO} (h : H p = none) : Same H (upd H p o) := fun b x e => by
  rw [upd_ne (ne_of_none e h)]
  exact e
/-- a store into what is new since H -/
theorem Same.put {H H' : Hp} {p : Addr} {o : HO} (s : Same H H') (h : H p = none) : Same H (upd H' p o) := fun b x e => by
  rw [upd_ne (ne_of_none e h)]
  exact s _ _ e
theorem same_sqt {K : PySem.W.Frag} {H H' : Hp} {r : Addr} {xs : List V} (s : Same H H') (h : SqT K H r xs) : SqT K H' r xs := by
  rcases h with (h | ⟨ob, h⟩) | h
  · exact .inl (.inl (s _ _ h))
  · exact .inl (.inr ⟨ob, s _ _ h⟩)
  · exact .inr h
theorem lk_hit {k : Str} {v : V} {r : List (Str × V)} : ((k, v) :: r).lookup k = some v := by
  simp [List.lookup]
theorem lk_skip {k k' : Str} {v : V} {r : List (Str × V)} (h : (k == k') = false) : ((k', v) :: r).lookup k = r.lookup k := by
  simp [List.lookup, h]
theorem ifF {b : Bool} {A B : Prop} (h : b = false) (q : B) : if b = true then A else B := by
  rw [h]
  exact iteF q
theorem ifT {b : Bool} {A B : Prop} (h : b = true) (q : A) : if b = true then A else B := by
  rw [h]
  exact iteT q
structure Bl (mg : Str → Option Value) : Prop where
  range : mg "range" = none
  len : mg "len" = none
  int : mg "int" = none
  bool : mg "bool" = none
  isinstance : mg "isinstance" = none
  list : mg "list" = none
  abs : mg "abs" = none
  min : mg "min" = none
  max : mg "max" = none
/-! ### instructions -/
inductive Row where
  | const (v : V) | load (n : Nat) | save (n : Nat) | pop | notO | add | item | setItem | list (n : Nat) | map (n : Nat) | call (n : Nat) | invoke (n : Nat) | sup | closure (f n : Nat)
  | declare | blank | drop (n : Nat) | klass | method | iter | field | setField | leave | ret | raise
def Row.wd : Row → Str
  | .const _ => "const" | .load _ => "load" | .save _ => "save" | .pop => "pop" | .notO => "not" | .add => "add" | .item => "item" | .setItem => "set_item" | .list _ => "list" | .map _ => "map" | .call _ => "call"
  | .invoke _ => "invoke" | .sup => "super" | .closure _ _ => "closure" | .declare => "declare" | .blank => "blank" | .drop _ => "drop" | .klass => "class" | .method => "method" | .iter => "iter" | .field => "field"
  | .setField => "set_field" | .leave => "leave" | .ret => "ret" | .raise => "raise"
def Row.ar : Row → List V
  | .const v => [v] | .load n => [.int n] | .save n => [.int n] | .notO => [.int 0] | .add => [.int 1] | .item => [.int 2] | .setItem => [.int 3] | .list n => [.int n] | .map n => [.int n, .int 1] | .call n => [.int n, .int 1]
  | .invoke n => [.str "m", .int n, .int 1] | .sup => [.str "m", .int 0, .int 1] | .closure f n => [.int f, .int n] | .drop n => [.int n] | .klass => [.str "K", .int 0] | .method => [.str "m"] | .iter => [.int 0] | .field => [.str "x", .int 1]
  | .setField => [.str "x", .int 1] | .raise => [.int 0] | _ => []
def Row.vs (r : Row) : List V := .str r.wd :: r.ar
/-- what VALUES says -/
def Row.v0 : Row → Nat
  | .save _ => 1 | .pop => 1 | .notO => 1 | .add => 2 | .item => 2 | .setItem => 3 | .call _ => 1 | .invoke _ => 1 | .sup => 2 | .declare => 1 | .method => 2 | .iter => 1 | .field => 1 | .setField => 2 | .ret => 1 | .raise => 1 | _ => 0
def Row.gives : Row → Nat
  | .const _ => 1 | .load _ => 1 | .save _ => 1 | .notO => 1 | .add => 1 | .item => 1 | .setItem => 1 | .list _ => 1 | .map _ => 1 | .call _ => 1 | .invoke _ => 1 | .sup => 1 | .closure _ _ => 1 | .klass => 1 | .method => 1 | .iter => 1 | .field => 1 | .setField => 1 | _ => 0
/-- what COUNTS says -/
def Row.ci : Row → Option Nat
  | .list _ => some 1 | .map _ => some 1 | .call _ => some 1 | .invoke _ => some 2 | .sup => some 2 | _ => none
def Row.cn : Row → Nat
  | .list n => n | .map n => n | .call n => n | .invoke n => n | _ => 0
def Row.takes (r : Row) : Nat := r.v0 + r.cn
def Row.left : Row → Nat
  | .leave => 1 | _ => 0
def Row.ended : Row → Nat
  | .drop n => n | _ => 0
def Row.need : Row → Nat
  | .load n => n + 1 | .save n => n + 1 | .klass => 1 | .drop n => n | _ => 0
def Row.mk1 : Row → Nat
  | .declare => 1 | .blank => 1 | _ => 0
def Row.isEnd : Row → Bool
  | .ret => true | .raise => true | _ => false
def Row.odd : Row → Bool
  | .map n => n % 2 == 1 | _ => false
def Row.clos (va : Nat) : Row → List (Nat × Nat)
  | .closure f n => [(f, n + va)] | _ => []
structure Ch where
  num : Nat
  want : Nat
  rows : List Row
def fstC (cs : List Ch) (n : Nat) : Option Ch := cs.find? fun c => c.num == n
def cloF (cs : List Ch) : Row → Option Str
  | .closure f n => match fstC cs f with
    | none => some "no such function"
    | some c => if n = c.want then none else some "another number of parameters"
  | _ => none
def fault (cs : List Ch) (r : Row) (st va : Nat) : Option Str :=
  if r.odd = true then some "an odd number of values" else if st < r.takes then some "too few values" else if 0 < r.left then some "too few handlers" else if va < r.need then some "too few variables" else cloF cs r
/-- the way through a function from its i-th instruction on -/
def walk (cs : List Ch) : List Row → Nat → Nat → Nat → List (Nat × Nat) → Option (Nat × Str) × List (Nat × Nat)
  | [], i, _, _, cl => (some (i, "the code ends here"), cl)
  | r :: rs, i, st, va, cl => match fault cs r st va with
    | some m => (some (i, m), cl)
    | none => if r.isEnd = true then (none, cl ++ r.clos va) else walk cs rs (i + 1) (st - r.takes + r.gives) (va - r.ended + r.mk1) (cl ++ r.clos va)
theorem at0 (r : Row) : atI r.vs (0 : Int) = some (.str r.wd) := atI_nat (j := 0) rfl
theorem ci_at (r : Row) (c : Nat) (h : r.ci = some c) : atI r.vs (c : Int) = some (.int (r.cn : Nat)) := by
  cases r <;> first | (cases h; rfl) | cases h
theorem ci_none (r : Row) (h : r.ci = none) : r.cn = 0 := by
  cases r <;> first | rfl | cases h
/-! ### the tables of the program -/
/-- VALUES at vA, COUNTS at cA, the tuples of words at eA, lA, bA -/
structure Tb (K : PySem.W.Frag) (mg : Str → Option Value) (w : World) (vA cA eA lA bA : Addr) : Prop where
  gV : mg "VALUES" = some (.ref vA)
  gC : mg "COUNTS" = some (.ref cA)
  gE : mg "ENDS" = some (.ref eA)
  gL : mg "LEAPS" = some (.ref lA)
  gB : mg "BRANCHES" = some (.ref bA)
  dV : ∃ es n, KDict K w vA es n
  dC : ∃ es n, KDict K w cA es n
  tV : ∀ r : Row, ∃ a, PySem.W.nsIn K vA r.wd = some (some (.ref a)) ∧ ∀ H, SqT K H a [.int (r.v0 : Nat), .int (r.gives : Nat)]
  tC : ∀ r : Row, match r.ci with
    | none => PySem.W.nsIn K cA r.wd = some none
    | some c => ∃ t, PySem.W.nsIn K cA r.wd = some (some (.int (c : Nat) t))
  tE : ∀ H, SqT K H eA [.str "raise", .str "ret"]
  tL : ∀ H, SqT K H lA [.str "jump", .str "escape"]
  tB : ∀ H, SqT K H bA [.str "jump", .str "unless", .str "both", .str "either", .str "next", .str "enter", .str "escape"]
section
variable {P : Program} {w : World} {K : PySem.W.Frag} {mg : Str → Option Value} {base : Heap} {vA cA eA lA bA : Addr}
theorem Tb.kV (T : Tb K mg w vA cA eA lA bA) (r : Row) : ∃ a, KDct K w vA r.wd (.ref a) ∧ ∀ H, SqT K H a [.int (r.v0 : Nat), .int (r.gives : Nat)] := by
  obtain ⟨a, e, h⟩ := T.tV r
  obtain ⟨es, n, D⟩ := T.dV
  exact ⟨a, ⟨es, n, _, D.at_, D.lit, e, rfl⟩, h⟩
/-! ### values_taken and its like -/
abbrev sTaken : Stmt := top 11
theorem scTaken : FnScope ["row", "counted"] ["row"] (defScope sTaken) := ⟨rfl, rfl, rfl, by decide +kernel, rfl, by decide +kernel, by decide +kernel⟩
def spN (K : PySem.W.Frag) (f : Row → Nat) : Sp := fun vs H Q _ => ∃ q r, vs = [.ref q] ∧ SqT K H q r.vs ∧ ∀ H', Same H H' → Q (.int (f r : Nat)) H'
theorem ok_taken {f : Addr} {fd : FuncData} (F : Fun K "values_taken" "values_taken" sTaken f fd) (T : Tb K mg w vA cA eA lA bA) : FnOk P w K mg base CX0 1 f fd ["row"] (spN K Row.takes) := by
  obtain ⟨esC, nC, DC⟩ := T.dC
  refine F.ok scTaken (fun vs H Q E h => ?_) (fun cdv A outer s H vs Q E hr h => ?_)
  · obtain ⟨q, r, rfl, _⟩ := h
    rfl
  · obtain ⟨q, r, rfl, hq, k⟩ := h
    obtain ⟨a, kv, ha⟩ := T.kV r
    have tc := T.tC r
    refine ⟨_, pss_cons (ps_set (i := 1) scTaken.nd rfl (.inl rfl) (pe_ifExp (pt_cmpR (op_in_kd DC) (pe_ix ix_tup (pv 0) pe_int (fun _ _ => rfl)) (pe_gc (v := .ref cA) (by rfl) ⟨_, T.gC, rfl⟩) (by rfl))
        (pe_ix ix_tup (pv 0) (pe_ix ix_kdict (pe_gc (v := .ref cA) (by rfl) ⟨_, T.gC, rfl⟩) (pe_ix ix_tup (pv 0) pe_int (fun _ _ => rfl)) (fun _ _ => rfl)) (fun _ _ => rfl)) pe_int))
      (pss_one (ps_ret (pe_op op_add (pe_ix ix_tup (pe_ix ix_kdict (pe_gc (v := .ref vA) (by rfl) ⟨_, T.gV, rfl⟩) (pe_ix ix_tup (pv 0) pe_int (fun _ _ => rfl)) (fun _ _ => rfl)) pe_int (fun _ _ => rfl)) (pv 1)))), ?_⟩
    have fin : ∀ c : Nat, r.cn = c → Q (.int ((r.v0 : Int) + (c : Int))) H := fun c e => by
      subst e
      exact k _ (Same.refl _)
    cases hc : r.ci with
    | none =>
      rw [hc] at tc
      refine ⟨_, rfl, q, _, _, _, rfl, rfl, hq, at0 r, _, none, rfl, rfl, tc, _, rfl, iteF ?_⟩
      exact ⟨_, rfl, q, _, _, _, rfl, rfl, hq, at0 r, vA, _, _, rfl, rfl, kv, a, _, _, _, rfl, rfl, ha _, rfl, _, rfl, _, _, rfl, rfl, fin 0 (ci_none r hc)⟩
    | some c =>
      rw [hc] at tc
      obtain ⟨t, tc⟩ := tc
      refine ⟨_, rfl, q, _, _, _, rfl, rfl, hq, at0 r, _, _, rfl, rfl, tc, _, rfl, iteT ?_⟩
      refine ⟨_, rfl, _, rfl, q, _, _, _, rfl, rfl, hq, at0 r, cA, _, .int (c : Nat), rfl, rfl, ⟨esC, nC, _, DC.at_, DC.lit, tc, ⟨_, rfl⟩⟩, q, _, _, _, rfl, rfl, hq, ci_at r c hc, ?_⟩
      exact ⟨_, rfl, q, _, _, _, rfl, rfl, hq, at0 r, vA, _, _, rfl, rfl, kv, a, _, _, _, rfl, rfl, ha _, rfl, _, rfl, _, _, rfl, rfl, fin _ rfl⟩
end
end My
namespace My
open PySem L2 SX
open C8 (pss_cut tCut cutS_slice pe_gc)
def wKs : List Str := ["const", "load", "save", "pop", "not", "add", "item", "set_item", "list", "map", "call", "invoke", "super", "closure", "declare", "blank", "drop", "class", "method", "iter", "field", "set_field", "leave", "ret", "raise"]
def wK (k : Nat) : Str := wKs.getD k ""
def Row.k : Row → Nat
  | .const _ => 0 | .load _ => 1 | .save _ => 2 | .pop => 3 | .notO => 4 | .add => 5 | .item => 6 | .setItem => 7 | .list _ => 8 | .map _ => 9 | .call _ => 10 | .invoke _ => 11 | .sup => 12 | .closure _ _ => 13
  | .declare => 14 | .blank => 15 | .drop _ => 16 | .klass => 17 | .method => 18 | .iter => 19 | .field => 20 | .setField => 21 | .leave => 22 | .ret => 23 | .raise => 24
theorem wd_k (r : Row) : r.wd = wK r.k := by cases r <;> rfl
theorem k_lt (r : Row) : r.k < 25 := by cases r <;> (simp only [Row.k]; omega)
theorem eq_word {s : Str} {f : Nat → Bool} (h : ∀ k, k < 25 → decide (V.str (wK k) = V.str s) = f k) (r : Row) : decide (V.str r.wd = V.str s) = f r.k := by
  rw [wd_k]
  exact h _ (k_lt r)
theorem in_word {l : List V} {f : Nat → Bool} (h : ∀ k, k < 25 → inV (.str (wK k)) l = f k) (r : Row) : inV (.str r.wd) l = f r.k := by
  rw [wd_k]
  exact h _ (k_lt r)
theorem w_escape (r : Row) : decide (V.str r.wd = V.str "escape") = false := eq_word (f := fun _ => false) (by decide +kernel) r
theorem w_enter (r : Row) : decide (V.str r.wd = V.str "enter") = false := eq_word (f := fun _ => false) (by decide +kernel) r
theorem w_leave (r : Row) : decide (V.str r.wd = V.str "leave") = (r.left == 1) := (eq_word (f := fun k => k == 22) (by decide +kernel) r).trans (by cases r <;> rfl)
theorem w_drop (r : Row) : (∃ n, r = .drop n ∧ decide (V.str r.wd = V.str "drop") = true) ∨ (decide (V.str r.wd = V.str "drop") = false ∧ r.ended = 0) := by
  have e := eq_word (s := "drop") (f := fun k => k == 16) (by decide +kernel) r
  cases r <;> first | exact .inl ⟨_, rfl, e⟩ | exact .inr ⟨e, rfl⟩
theorem w_map (r : Row) : (∃ n, r = .map n ∧ decide (V.str r.wd = V.str "map") = true) ∨ (decide (V.str r.wd = V.str "map") = false ∧ r.odd = false) := by
  have e := eq_word (s := "map") (f := fun k => k == 9) (by decide +kernel) r
  cases r <;> first | exact .inl ⟨_, rfl, e⟩ | exact .inr ⟨e, rfl⟩
theorem w_closure (r : Row) : (∃ f n, r = .closure f n ∧ decide (V.str r.wd = V.str "closure") = true) ∨ (decide (V.str r.wd = V.str "closure") = false ∧ (∀ va, r.clos va = []) ∧ ∀ cs, cloF cs r = none) := by
  have e := eq_word (s := "closure") (f := fun k => k == 13) (by decide +kernel) r
  cases r <;> first | exact .inl ⟨_, _, rfl, e⟩ | exact .inr ⟨e, fun _ => rfl, fun _ => rfl⟩
theorem w_ls (r : Row) : (∃ n, (r = .load n ∨ r = .save n) ∧ inV (.str r.wd) [.str "load", .str "save"] = true) ∨ (inV (.str r.wd) [.str "load", .str "save"] = false ∧ (r.need = 0 ∨ r = .klass ∨ r.need = r.ended)) := by
  have e := in_word (l := [.str "load", .str "save"]) (f := fun k => k == 1 || k == 2) (by decide +kernel) r
  cases r <;> first | exact .inl ⟨_, .inl rfl, e⟩ | exact .inl ⟨_, .inr rfl, e⟩ | exact .inr ⟨e, .inr (.inl rfl)⟩ | exact .inr ⟨e, .inr (.inr rfl)⟩
theorem w_cn (r : Row) : (r = .klass ∧ inV (.str r.wd) [.str "class", .str "next"] = true) ∨ (inV (.str r.wd) [.str "class", .str "next"] = false ∧ r ≠ .klass) := by
  have e := in_word (l := [.str "class", .str "next"]) (f := fun k => k == 17) (by decide +kernel) r
  cases r <;> first | exact .inl ⟨rfl, e⟩ | exact .inr ⟨e, fun z => by cases z⟩
theorem w_ends (r : Row) : inV (.str r.wd) [.str "raise", .str "ret"] = r.isEnd := (in_word (f := fun k => k == 23 || k == 24) (by decide +kernel) r).trans (by cases r <;> rfl)
theorem w_leaps (r : Row) : inV (.str r.wd) [.str "jump", .str "escape"] = false := in_word (f := fun _ => false) (by decide +kernel) r
theorem w_branches (r : Row) : inV (.str r.wd) [.str "jump", .str "unless", .str "both", .str "either", .str "next", .str "enter", .str "escape"] = false := in_word (f := fun _ => false) (by decide +kernel) r
theorem w_db (r : Row) : (inV (.str r.wd) [.str "declare", .str "blank"] = true ∧ r.mk1 = 1) ∨ (inV (.str r.wd) [.str "declare", .str "blank"] = false ∧ r.mk1 = 0) := by
  have e := in_word (l := [.str "declare", .str "blank"]) (f := fun k => k == 14 || k == 15) (by decide +kernel) r
  cases r <;> first | exact .inl ⟨e, rfl⟩ | exact .inr ⟨e, rfl⟩
theorem at1_drop (n : Nat) : atI (Row.drop n).vs (1 : Int) = some (.int (n : Nat)) := atI_nat (j := 1) rfl
theorem at1_map (n : Nat) : atI (Row.map n).vs (1 : Int) = some (.int (n : Nat)) := atI_nat (j := 1) rfl
theorem at1_load (n : Nat) : atI (Row.load n).vs (1 : Int) = some (.int (n : Nat)) := atI_nat (j := 1) rfl
theorem at1_save (n : Nat) : atI (Row.save n).vs (1 : Int) = some (.int (n : Nat)) := atI_nat (j := 1) rfl
theorem at1_clo (f n : Nat) : atI (Row.closure f n).vs (1 : Int) = some (.int (f : Nat)) := atI_nat (j := 1) rfl
theorem at2_clo (f n : Nat) : atI (Row.closure f n).vs (2 : Int) = some (.int (n : Nat)) := atI_nat (j := 2) rfl
section
variable {P : Program} {w : World} {K : PySem.W.Frag} {mg : Str → Option Value} {base : Heap} {vA cA eA lA bA : Addr}
abbrev sLeft : Stmt := top 12
abbrev sEnded : Stmt := top 13
abbrev sNeeded : Stmt := top 14
theorem scLeft : FnScope ["row"] ["row"] (defScope sLeft) := ⟨rfl, rfl, rfl, by decide +kernel, rfl, by decide +kernel, by decide +kernel⟩
theorem scEnded : FnScope ["row"] ["row"] (defScope sEnded) := ⟨rfl, rfl, rfl, by decide +kernel, rfl, by decide +kernel, by decide +kernel⟩
theorem scNeeded : FnScope ["row"] ["row"] (defScope sNeeded) := ⟨rfl, rfl, rfl, by decide +kernel, rfl, by decide +kernel, by decide +kernel⟩
theorem ok_left {f : Addr} {fd : FuncData} (F : Fun K "handlers_left" "handlers_left" sLeft f fd) : FnOk P w K mg base CX0 1 f fd ["row"] (spN K Row.left) := by
  refine F.ok scLeft (fun vs H Q E h => ?_) (fun cdv A outer s H vs Q E hr h => ?_)
  · obtain ⟨q, r, rfl, _⟩ := h
    rfl
  · obtain ⟨q, r, rfl, hq, k⟩ := h
    refine ⟨_, pss_cons (ps_if (pt_cmpR op_eq (pe_ix ix_tup (pv 0) pe_int (fun _ _ => rfl)) pe_str (nomark _)) (pss_one ps_never) pss_nil)
      (pss_one (ps_ret (pe_ifExp (pt_cmpR op_eq (pe_ix ix_tup (pv 0) pe_int (fun _ _ => rfl)) pe_str (nomark _)) pe_int pe_int))), ?_⟩
    refine ⟨_, rfl, q, _, _, _, rfl, rfl, hq, at0 r, rfl, _, rfl, ifF (w_escape r) ⟨_, rfl, q, _, _, _, rfl, rfl, hq, at0 r, rfl, _, rfl, ?_⟩⟩
    have k' := k _ (Same.refl _)
    cases e : (r.left == 1) with
    | true =>
      rw [show r.left = 1 from eq_of_beq e] at k'
      exact ifT ((w_leave r).trans e) k'
    | false =>
      rw [show r.left = 0 by cases r <;> first | rfl | cases e] at k'
      exact ifF ((w_leave r).trans e) k'
theorem ok_ended {f : Addr} {fd : FuncData} (F : Fun K "variables_ended" "variables_ended" sEnded f fd) : FnOk P w K mg base CX0 1 f fd ["row"] (spN K Row.ended) := by
  refine F.ok scEnded (fun vs H Q E h => ?_) (fun cdv A outer s H vs Q E hr h => ?_)
  · obtain ⟨q, r, rfl, _⟩ := h
    rfl
  · obtain ⟨q, r, rfl, hq, k⟩ := h
    refine ⟨_, pss_cons (ps_if (pt_cmpR op_eq (pe_ix ix_tup (pv 0) pe_int (fun _ _ => rfl)) pe_str (nomark _)) (pss_one ps_never) pss_nil)
      (pss_one (ps_ret (pe_ifExp (pt_cmpR op_eq (pe_ix ix_tup (pv 0) pe_int (fun _ _ => rfl)) pe_str (nomark _)) (pe_ix ix_tup (pv 0) pe_int (fun _ _ => rfl)) pe_int))), ?_⟩
    refine ⟨_, rfl, q, _, _, _, rfl, rfl, hq, at0 r, rfl, _, rfl, ifF (w_escape r) ⟨_, rfl, q, _, _, _, rfl, rfl, hq, at0 r, rfl, _, rfl, ?_⟩⟩
    have k' := k _ (Same.refl _)
    rcases w_drop r with ⟨n, rfl, e⟩ | ⟨e, e0⟩
    · exact ifT e ⟨_, rfl, q, _, _, _, rfl, rfl, hq, at1_drop n, k'⟩
    · rw [e0] at k'
      exact ifF e k'
theorem ok_needed {f fE : Addr} {fd gE : FuncData} (F : Fun K "variables_needed" "variables_needed" sNeeded f fd) (FE : Fun K "variables_ended" "variables_ended" sEnded fE gE) (bE : Binds K gE ["row"] []) (mE : mg "variables_ended" = some (.ref fE)) :
    FnOk P w K mg base CX0 2 f fd ["row"] (spN K Row.need) := by
  have GE : FnOk P w K mg base CX0 1 fE gE ["row"] (spN K Row.ended) := ok_ended FE
  refine F.ok scNeeded (fun vs H Q E h => ?_) (fun cdv A outer s H vs Q E hr h => ?_)
  · obtain ⟨q, r, rfl, _⟩ := h
    rfl
  · obtain ⟨q, r, rfl, hq, k⟩ := h
    refine ⟨_, pss_cons (ps_if (pt_cmpR op_in_seq (pe_ix ix_tup (pv 0) pe_int (fun _ _ => rfl)) (pe_tup (pa_cons pe_str (pa_cons pe_str pa_nil))) (by rfl)) (pss_one (ps_ret (pe_op op_add (pe_ix ix_tup (pv 0) pe_int (fun _ _ => rfl)) pe_int))) pss_nil)
      (pss_one (ps_ret (pe_ifExp (pt_cmpR op_in_seq (pe_ix ix_tup (pv 0) pe_int (fun _ _ => rfl)) (pe_tup (pa_cons pe_str (pa_cons pe_str pa_nil))) (by rfl)) pe_int (pe_call GE hr (by rfl) mE FE.kp bE .nil pass0 (pa_cons (pv 0) pa_nil))))), ?_⟩
    refine ⟨_, rfl, q, _, _, _, rfl, rfl, hq, at0 r, (by show 2 ≤ sizeLine; decide), fun t nt => ⟨t, _, rfl, .inr (.inl (.inl upd_same)), rfl, rfl, _, rfl, ?_⟩⟩
    have s1 := same_upd (o := .tup [.str "load", .str "save"]) nt
    have hq1 := same_sqt s1 hq
    rcases w_ls r with ⟨n, hr', e⟩ | ⟨e, en⟩
    · rcases hr' with rfl | rfl
      · exact ifT e ⟨_, rfl, q, _, _, _, rfl, rfl, hq1, at1_load n, _, _, rfl, rfl, k _ s1⟩
      · exact ifT e ⟨_, rfl, q, _, _, _, rfl, rfl, hq1, at1_save n, _, _, rfl, rfl, k _ s1⟩
    · refine ifF e ⟨_, rfl, q, _, _, _, rfl, rfl, hq1, at0 r, (by show 2 ≤ sizeLine; decide), fun t2 nt2 => ⟨t2, _, rfl, .inr (.inl (.inl upd_same)), rfl, rfl, _, rfl, ?_⟩⟩
      have s2 := s1.trans (same_upd (o := .tup [.str "class", .str "next"]) nt2)
      rcases w_cn r with ⟨rfl, e2⟩ | ⟨e2, e3⟩
      · exact ifT e2 (k _ s2)
      · refine ifF e2 ⟨_, rfl, q, r, rfl, same_sqt s2 hq, fun H' s3 => ?_⟩
        have k' := k _ (s2.trans s3)
        have en' : r.need = r.ended := by
          rcases en with h | h | h
          · cases r <;> first | rfl | exact h | (simp [Row.need] at h)
          · exact absurd h e3
          · exact h
        rw [en'] at k'
        exact k'
end
end My
namespace My
open PySem L2 SX
open C8 (pss_cut tCut cutS_slice pe_gc)
def optV : Option Str → V
  | none => .non
  | some m => .str m
/-- a shape: so many values, so many variables, no handlers -/
def ShAt (K : PySem.W.Frag) (H : Hp) (p : Addr) (st va : Nat) : Prop := ∃ hp, SqT K H p [.int st, .int va, .ref hp] ∧ SqT K H hp []
theorem ShAt.same {K : PySem.W.Frag} {H H' : Hp} {p : Addr} {st va : Nat} (s : Same H H') (h : ShAt K H p st va) : ShAt K H' p st va := by
  obtain ⟨hp, h1, h2⟩ := h
  exact ⟨hp, same_sqt s h1, same_sqt s h2⟩
theorem sqt_keep {K : PySem.W.Frag} {H H' : Hp} {p r : Addr} {xs ys : List V} (hk : Keep p H H') (hp : H p = some (.lst ys)) (h : SqT K H r xs) : SqT K H' r xs := by
  rcases h with (h | ⟨ob, h⟩) | h
  · exact .inl (.inl (hk _ _ h fun z => by rw [z, hp] at h; cases h))
  · exact .inl (.inr ⟨ob, hk _ _ h fun z => by rw [z, hp] at h; cases h⟩)
  · exact .inr h
theorem ShAt.keep {K : PySem.W.Frag} {H H' : Hp} {p q : Addr} {ys : List V} {st va : Nat} (s : Keep q H H') (hp : H q = some (.lst ys)) (h : ShAt K H p st va) : ShAt K H' p st va := by
  obtain ⟨hp', h1, h2⟩ := h
  exact ⟨hp', sqt_keep s hp h1, sqt_keep s hp h2⟩
def RowsAt (K : PySem.W.Frag) (H : Hp) : List Addr → List Row → Prop
  | [], [] => True
  | q :: qs, r :: rs => SqT K H q r.vs ∧ RowsAt K H qs rs
  | _, _ => False
theorem RowsAt.len {K : PySem.W.Frag} {H : Hp} : ∀ {qs : List Addr} {rs : List Row}, RowsAt K H qs rs → qs.length = rs.length
  | [], [], _ => rfl
  | q :: qs, r :: rs, h => by
    have := RowsAt.len h.2
    simp [this]
  | [], _ :: _, h => h.elim
  | _ :: _, [], h => h.elim
theorem RowsAt.get {K : PySem.W.Frag} {H : Hp} : ∀ {qs : List Addr} {rs : List Row} {i : Nat} {r : Row}, RowsAt K H qs rs → rs[i]? = some r → ∃ q, qs[i]? = some q ∧ SqT K H q r.vs
  | [], [], _, _, _, e => by simp at e
  | q :: qs, r :: rs, 0, r', h, e => by
    simp at e
    subst e
    exact ⟨q, rfl, h.1⟩
  | q :: qs, r :: rs, i + 1, r', h, e => by
    simp at e
    obtain ⟨q', e1, e2⟩ := RowsAt.get h.2 e
    exact ⟨q', by simpa using e1, e2⟩
  | [], _ :: _, _, _, h, _ => h.elim
  | _ :: _, [], _, _, h, _ => h.elim
theorem RowsAt.same {K : PySem.W.Frag} {H H' : Hp} (s : Same H H') : ∀ {qs : List Addr} {rs : List Row}, RowsAt K H qs rs → RowsAt K H' qs rs
  | [], [], _ => trivial
  | q :: qs, r :: rs, h => ⟨same_sqt s h.1, RowsAt.same s h.2⟩
  | [], _ :: _, h => h.elim
  | _ :: _, [], h => h.elim
theorem RowsAt.snoc {K : PySem.W.Frag} {H : Hp} {q : Addr} {r : Row} (h1 : SqT K H q r.vs) : ∀ {qs : List Addr} {rs : List Row}, RowsAt K H qs rs → RowsAt K H (qs ++ [q]) (rs ++ [r])
  | [], [], _ => ⟨h1, trivial⟩
  | _ :: _, _ :: _, h => ⟨h.1, RowsAt.snoc h1 h.2⟩
  | [], _ :: _, h => h.elim
  | _ :: _, [], h => h.elim
theorem RowsAt.app {K : PySem.W.Frag} {H : Hp} {qs' : List Addr} {rs' : List Row} (h1 : RowsAt K H qs' rs') : ∀ {qs : List Addr} {rs : List Row}, RowsAt K H qs rs → RowsAt K H (qs ++ qs') (rs ++ rs')
  | [], [], _ => h1
  | _ :: _, _ :: _, h => ⟨h.1, RowsAt.app h1 h.2⟩
  | [], _ :: _, h => h.elim
  | _ :: _, [], h => h.elim
def chF (ch : Ch) (rl sl : Addr) : List (Str × V) := [("number", .int (ch.num : Nat)), ("wanted", .int (ch.want : Nat)), ("rows", .ref rl), ("scopes", .ref sl)]
def ChAt (K : PySem.W.Frag) (cC : Addr) (H : Hp) (a : Addr) (ch : Ch) : Prop := ∃ dx rl sl qs, H a = some (.ins cC dx (chF ch rl sl)) ∧ H rl = some (.lst (qs.map V.ref)) ∧ RowsAt K H qs ch.rows
theorem ChAt.same {K : PySem.W.Frag} {cC : Addr} {H H' : Hp} {a : Addr} {ch : Ch} (s : Same H H') (h : ChAt K cC H a ch) : ChAt K cC H' a ch := by
  obtain ⟨dx, rl, sl, qs, h1, h2, h3⟩ := h
  exact ⟨dx, rl, sl, qs, s _ _ h1, s _ _ h2, h3.same s⟩
theorem ch_num (ch : Ch) (rl sl : Addr) : (chF ch rl sl).lookup ("number" : Str) = some (.int (ch.num : Nat)) := lk_hit
theorem ch_want (ch : Ch) (rl sl : Addr) : (chF ch rl sl).lookup ("wanted" : Str) = some (.int (ch.want : Nat)) := by
  unfold chF
  rw [lk_skip (by decide +kernel)]
  exact lk_hit
theorem ch_rows (ch : Ch) (rl sl : Addr) : (chF ch rl sl).lookup ("rows" : Str) = some (.ref rl) := by
  unfold chF
  rw [lk_skip (by decide +kernel), lk_skip (by decide +kernel)]
  exact lk_hit
/-- the dict of the first chunks of each number -/
def BnAt (K : PySem.W.Frag) (cC : Addr) (H : Hp) (b : Addr) (cs : List Ch) : Prop := ∃ kvs : List (Key × V), H b = some (.dK kvs) ∧ kvs.length ≤ 100 ∧ ∀ n : Nat, match fstC cs n with
  | none => valV kvs (.inl (n : Int)) = none
  | some ch => ∃ a, valV kvs (.inl (n : Int)) = some (.ref a) ∧ ChAt K cC H a ch
theorem BnAt.same {K : PySem.W.Frag} {cC : Addr} {H H' : Hp} {b : Addr} {cs : List Ch} (s : Same H H') (h : BnAt K cC H b cs) : BnAt K cC H' b cs := by
  obtain ⟨kvs, h1, hl, h2⟩ := h
  refine ⟨kvs, s _ _ h1, hl, fun n => ?_⟩
  have := h2 n
  cases e : fstC cs n with
  | none => rw [e] at this; exact this
  | some ch =>
    rw [e] at this
    obtain ⟨a, e1, e2⟩ := this
    exact ⟨a, e1, e2.same s⟩
/-- the class of chunks -/
structure Cc (K : PySem.W.Frag) (mg : Str → Option Value) (cC : Addr) : Prop where
  cl : Cls K cC
  n1 : PySem.W.findIn K (.ref cC) "number" = some none
  n2 : PySem.W.findIn K (.ref cC) "wanted" = some none
  n3 : PySem.W.findIn K (.ref cC) "rows" = some none
  n4 : PySem.W.findIn K (.ref cC) "scopes" = some none
  g : mg "Chunk" = some (.ref cC)
/-- where the program's small defs stand -/
structure Pd (K : PySem.W.Frag) (mg : Str → Option Value) (kT kL kE kN : Addr) (uT uL uE uN : FuncData) : Prop where
  fT : Fun K "values_taken" "values_taken" sTaken kT uT
  bT : Binds K uT ["row"] []
  gT : mg "values_taken" = some (.ref kT)
  fL : Fun K "handlers_left" "handlers_left" sLeft kL uL
  bL : Binds K uL ["row"] []
  gL : mg "handlers_left" = some (.ref kL)
  fE : Fun K "variables_ended" "variables_ended" sEnded kE uE
  bE : Binds K uE ["row"] []
  gE : mg "variables_ended" = some (.ref kE)
  fN : Fun K "variables_needed" "variables_needed" sNeeded kN uN
  bN : Binds K uN ["row"] []
  gN : mg "variables_needed" = some (.ref kN)
section
variable {P : Program} {w : World} {K : PySem.W.Frag} {mg : Str → Option Value} {base : Heap} {vA cA eA lA bA cC kT kL kE kN : Addr} {uT uL uE uN : FuncData}
abbrev sFault : Stmt := top 10
theorem scFault : FnScope ["row", "shape", "by_number", "values", "variables", "handlers"] ["row", "shape", "by_number"] (defScope sFault) := ⟨rfl, rfl, rfl, by decide +kernel, rfl, by decide +kernel, by decide +kernel⟩
def spFault (K : PySem.W.Frag) (cC : Addr) : Sp := fun vs H Q _ => ∃ (q sp b : Addr) (r : Row) (st va : Nat) (cs : List Ch), vs = [.ref q, .ref sp, .ref b] ∧ SqT K H q r.vs ∧ ShAt K H sp st va ∧ BnAt K cC H b cs ∧ ∀ H', Same H H' → Q (optV (fault cs r st va)) H'
theorem ok_fault {f : Addr} {fd : FuncData} (F : Fun K "fault_of" "fault_of" sFault f fd) (B : Bl mg) (T : Tb K mg w vA cA eA lA bA) (C : Cc K mg cC) (D : Pd K mg kT kL kE kN uT uL uE uN) : FnOk P w K mg base CX0 3 f fd ["row", "shape", "by_number"] (spFault K cC) := by
  have GT : FnOk P w K mg base CX0 1 kT uT ["row"] (spN K Row.takes) := ok_taken D.fT T
  have GL : FnOk P w K mg base CX0 1 kL uL ["row"] (spN K Row.left) := ok_left D.fL
  have GN : FnOk P w K mg base CX0 2 kN uN ["row"] (spN K Row.need) := ok_needed D.fN D.fE D.bE D.gE
  refine F.ok scFault (fun vs H Q E h => ?_) (fun cdv A outer s H vs Q E hr h => ?_)
  · obtain ⟨q, sp, b, r, st, va, cs, rfl, _⟩ := h
    rfl
  · obtain ⟨q, sp, b, r, st, va, cs, rfl, hq, ⟨hp, hs1, hs2⟩, hb, k⟩ := h
    have h1 : Room 1 _ := hr.mono (by decide)
    refine ⟨_, pss_cons (ps_asg (pv 1) (pg_tup (by rfl) (pgs_cons (pg_name (i := 3) scFault.nd rfl (.inl rfl)) (pgs_cons (pg_name (i := 4) scFault.nd rfl (.inl rfl)) (pgs_cons (pg_name (i := 5) scFault.nd rfl (.inl rfl)) pgs_nil)))))
      (pss_cut (ps_if (PW.pt (pw_and (pt_cmpR op_eq (pe_ix ix_tup (pv 0) pe_int (fun _ _ => rfl)) pe_str (nomark _)) (pw_and1 (pt_cmpR op_eq (pe_op op_mod (pe_ix ix_tup (pv 0) pe_int (fun _ _ => rfl)) pe_int) pe_int (nomark _))))) (pss_one (ps_ret pe_str)) pss_nil)
      (pss_cons (ps_if (pt_cmpR op_lt (pv 3) (pe_call GT h1 (by rfl) D.gT D.fT.kp D.bT .nil pass0 (pa_cons (pv 0) pa_nil)) (nomark _)) (pss_one (ps_ret pe_str)) pss_nil)
      (pss_cons (ps_if (pt_cmpR op_lt (pe_callB call_len_seq (by rfl) B.len PySem.boot_len (pa_cons (pv 5) pa_nil)) (pe_call GL h1 (by rfl) D.gL D.fL.kp D.bL .nil pass0 (pa_cons (pv 0) pa_nil)) (nomark _)) (pss_one (ps_ret pe_str)) pss_nil)
      (pss_cons (ps_if (pt_cmpR op_lt (pv 4) (pe_call GN hr (by rfl) D.gN D.fN.kp D.bN .nil pass0 (pa_cons (pv 0) pa_nil)) (nomark _)) (pss_one (ps_ret pe_str)) pss_nil)
      (pss_cons (ps_if (PW.pt (pw_and (pt_cmpR op_eq (pe_ix ix_tup (pv 0) pe_int (fun _ _ => rfl)) pe_str (nomark _)) (pw_and1 (pt_cmp (pc_dnotin (hu_of hr) (pe_ix ix_tup (pv 0) pe_int (fun _ _ => rfl)) (pv 2)))))) (pss_one (ps_ret pe_str)) pss_nil)
      (pss_cons (ps_if (PW.pt (pw_and (pt_cmpR op_eq (pe_ix ix_tup (pv 0) pe_int (fun _ _ => rfl)) pe_str (nomark _)) (pw_and1 (pt_cmpR op_ne (pe_ix ix_tup (pv 0) pe_int (fun _ _ => rfl)) (pe_fld (pe_dget (hu_of hr) (pv 2) (pe_ix ix_tup (pv 0) pe_int (fun _ _ => rfl)) (fun _ _ => rfl)) rfl) (nomark _))))) (pss_one (ps_ret pe_str)) pss_nil)
      (pss_one (ps_ret pe_non)))))))), ?_⟩
    refine ⟨_, rfl, sp, _, rfl, hs1, rfl, _, _, rfl, _, _, rfl, _, _, rfl, rfl, ?_⟩
    let M : List (Option V) → Hp → Prop := fun σ' H' => σ' = [some (.ref q), some (.ref sp), some (.ref b), some (.int st), some (.int va), some (.ref hp)] ∧ H' = H ∧ r.odd = false
    refine ⟨M, ⟨_, rfl, q, _, _, _, rfl, rfl, hq, at0 r, rfl, _, rfl, ?_⟩, ?_⟩
    · rcases w_map r with ⟨n, rfl, e⟩ | ⟨e, eo⟩
      · refine ifT e ⟨_, rfl, q, _, _, _, rfl, rfl, hq, at1_map n, _, _, rfl, rfl, (by show (0 : Int) < 2; decide), rfl, _, rfl, ?_⟩
        cases ho : (Row.map n).odd with
        | true =>
          have ho' : n % 2 = 1 := by simpa [Row.odd] using ho
          refine ifT (by simp; omega) ?_
          have k' := k _ (Same.refl _)
          unfold fault at k'
          rw [if_pos ho] at k'
          exact k'
        | false =>
          have ho' : ¬ n % 2 = 1 := by simpa [Row.odd] using ho
          exact ifF (by simp; omega) ⟨rfl, rfl, ho⟩
      · exact ifF e ⟨rfl, rfl, eo⟩
    rintro σ' H0 ⟨rfl, rfl, eo⟩
    have kf : ∀ {x : Option Str}, fault cs r st va = x → ∀ H', Same H0 H' → Q (optV x) H' := fun e H' s' => by
      subst e
      exact k H' s'
    have f0 : fault cs r st va = (if st < r.takes then some ("too few values" : Str) else if 0 < r.left then some ("too few handlers" : Str) else if va < r.need then some ("too few variables" : Str) else cloF cs r) := by
      unfold fault
      rw [eo, if_neg Bool.false_ne_true]
    refine ⟨_, rfl, _, rfl, q, r, rfl, hq, fun H1 s1 => ⟨_, _, rfl, rfl, _, rfl, ?_⟩⟩
    by_cases c1 : st < r.takes
    · exact ifT (by simpa using c1) (kf (x := some "too few values") (by rw [f0, if_pos c1]) _ s1)
    rw [if_neg c1] at f0
    refine ifF (by simpa using c1) ⟨_, rfl, hp, _, rfl, .inr (same_sqt s1 hs2), _, rfl, q, r, rfl, same_sqt s1 hq, fun H2 s2 => ⟨_, _, rfl, rfl, _, rfl, ?_⟩⟩
    by_cases c2 : 0 < r.left
    · exact ifT (by simpa using c2) (kf (x := some "too few handlers") (by rw [f0, if_pos c2]) _ (s1.trans s2))
    rw [if_neg c2] at f0
    have s12 := s1.trans s2
    refine ifF (by simpa using c2) ⟨_, rfl, _, rfl, q, r, rfl, same_sqt s12 hq, fun H3 s3 => ⟨_, _, rfl, rfl, _, rfl, ?_⟩⟩
    by_cases c3 : va < r.need
    · exact ifT (by simpa using c3) (kf (x := some "too few variables") (by rw [f0, if_pos c3]) _ (s12.trans s3))
    rw [if_neg c3] at f0
    have s123 := s12.trans s3
    have hq3 := same_sqt s123 hq
    refine ifF (by simpa using c3) ⟨_, rfl, q, _, _, _, rfl, rfl, hq3, at0 r, rfl, _, rfl, ?_⟩
    rcases w_closure r with ⟨f, n, rfl, e⟩ | ⟨e, _, ec⟩
    · obtain ⟨kvs, hk1, _, hk2⟩ := hb.same s123
      have hf := hk2 f
      refine ifT e ⟨_, rfl, q, _, _, _, rfl, rfl, hq3, at1_clo f n, _, rfl, b, _, rfl, DGet.k (k := Sum.inl (f : Int)) hk1, _, rfl, ?_⟩
      cases ef : fstC cs f with
      | none =>
        rw [ef] at hf
        rw [hf]
        exact ifT rfl (kf (x := some "no such function") (by rw [f0]; simp [cloF, ef]) _ s123)
      | some ch =>
        rw [ef] at hf
        obtain ⟨a, ea, dx, rl, sl, qs, ha, _⟩ := hf
        rw [ea]
        refine ifF rfl ⟨_, rfl, q, _, _, _, rfl, rfl, hq3, at0 _, rfl, _, rfl, ifT e ⟨_, rfl, q, _, _, _, rfl, rfl, hq3, at2_clo f n, _, rfl, _, rfl, q, _, _, _, rfl, rfl, hq3, at1_clo f n, b, _, rfl, (by rw [← ea]; exact DGet.k (k := Sum.inl (f : Int)) hk1), a, cC, dx, _, _, rfl, ha, C.cl, C.n2, ch_want _ _ _, rfl, _, rfl, ?_⟩⟩
        by_cases c4 : n = ch.want
        · exact ifF (by simp [c4]) (kf (x := none) (by rw [f0]; simp [cloF, ef, c4]) _ s123)
        · exact ifT (by simp; omega) (kf (x := some "another number of parameters") (by rw [f0]; simp [cloF, ef, c4]) _ s123)
    · refine ifF e ⟨_, rfl, q, _, _, _, rfl, rfl, hq3, at0 r, rfl, _, rfl, ifF e (ifF rfl (kf (x := none) (by rw [f0, ec]) _ s123))⟩
end
end My
namespace My
open PySem L2 SX
open C8 (pss_cut tCut cutS_slice pe_gc)
section
variable {P : Program} {w : World} {K : PySem.W.Frag} {mg : Str → Option Value} {base : Heap} {vA cA eA lA bA cC kT kL kE kN kS : Addr} {uT uL uE uN uS : FuncData}
abbrev sBehind : Stmt := top 16
theorem scBehind : FnScope ["row", "shape", "values", "variables", "handlers", "made"] ["row", "shape"] (defScope sBehind) := ⟨rfl, rfl, rfl, by decide +kernel, rfl, by decide +kernel, by decide +kernel⟩
def spBehind (K : PySem.W.Frag) : Sp := fun vs H Q _ => ∃ (q sp : Addr) (r : Row) (st va : Nat), vs = [.ref q, .ref sp] ∧ SqT K H q r.vs ∧ ShAt K H sp st va ∧ r.left = 0 ∧ r.takes ≤ st ∧ r.ended ≤ va ∧
  ∀ H' p, Same H H' → ShAt K H' p (st - r.takes + r.gives) (va - r.ended + r.mk1) → Q (.ref p) H'
theorem ok_behind {f : Addr} {fd : FuncData} (F : Fun K "shape_behind" "shape_behind" sBehind f fd) (T : Tb K mg w vA cA eA lA bA) (D : Pd K mg kT kL kE kN uT uL uE uN) : FnOk P w K mg base CX0 2 f fd ["row", "shape"] (spBehind K) := by
  have GT : FnOk P w K mg base CX0 1 kT uT ["row"] (spN K Row.takes) := ok_taken D.fT T
  have GL : FnOk P w K mg base CX0 1 kL uL ["row"] (spN K Row.left) := ok_left D.fL
  have GE : FnOk P w K mg base CX0 1 kE uE ["row"] (spN K Row.ended) := ok_ended D.fE
  refine F.ok scBehind (fun vs H Q E h => ?_) (fun cdv A outer s H vs Q E hr h => ?_)
  · obtain ⟨q, sp, r, st, va, rfl, _⟩ := h
    rfl
  · obtain ⟨q, sp, r, st, va, rfl, hq, ⟨hp, hs1, hs2⟩, hl, ht, he, k⟩ := h
    obtain ⟨a, kv, ha⟩ := T.kV r
    refine ⟨_, pss_cons (ps_asg (pv 1) (pg_tup (by rfl) (pgs_cons (pg_name (i := 2) scBehind.nd rfl (.inl rfl)) (pgs_cons (pg_name (i := 3) scBehind.nd rfl (.inl rfl)) (pgs_cons (pg_name (i := 4) scBehind.nd rfl (.inl rfl)) pgs_nil)))))
      (pss_cons (ps_aug (i := 2) scBehind.nd rfl (.inl rfl) (pe_op op_sub (pe_ix ix_tup (pe_ix ix_kdict (pe_gc (v := .ref vA) (by rfl) ⟨_, T.gV, rfl⟩) (pe_ix ix_tup (pv 0) pe_int (fun _ _ => rfl)) (fun _ _ => rfl)) pe_int (fun _ _ => rfl)) (pe_call GT hr (by rfl) D.gT D.fT.kp D.bT .nil pass0 (pa_cons (pv 0) pa_nil))) ip_add)
      (pss_cons (ps_set (i := 4) scBehind.nd rfl (.inl rfl) (pe_slice sl_tupA (pv 4) (po_some (pe_call GL hr (by rfl) D.gL D.fL.kp D.bL .nil pass0 (pa_cons (pv 0) pa_nil))) po_none))
      (pss_cons (ps_if (pt_cmpR op_eq (pe_ix ix_tup (pv 0) pe_int (fun _ _ => rfl)) pe_str (nomark _)) (pss_one ps_never) pss_nil)
      (pss_cut (ps_set (i := 5) scBehind.nd rfl (.inl rfl) (pe_ifExp (pt_cmpR op_in_seq (pe_ix ix_tup (pv 0) pe_int (fun _ _ => rfl)) (pe_tup (pa_cons pe_str (pa_cons pe_str pa_nil))) (by rfl)) pe_int pe_int))
      (pss_one (ps_ret (pe_tup (pa_cons (pv 2) (pa_cons (pe_op op_add (pe_op op_sub (pv 3) (pe_call GE hr (by rfl) D.gE D.fE.kp D.bE .nil pass0 (pa_cons (pv 0) pa_nil))) (pv 5)) (pa_cons (pv 4) pa_nil)))))))))), ?_⟩
    refine ⟨_, rfl, sp, _, rfl, hs1, rfl, _, _, rfl, _, _, rfl, _, _, rfl, rfl, ?_⟩
    refine ⟨_, rfl, _, rfl, q, _, _, _, rfl, rfl, hq, at0 r, vA, _, _, rfl, rfl, kv, a, _, _, _, rfl, rfl, ha _, rfl, _, rfl, q, r, rfl, hq, fun H1 s1 => ⟨_, _, rfl, rfl, _, _, rfl, rfl, ?_⟩⟩
    refine ⟨_, rfl, _, rfl, q, r, rfl, same_sqt s1 hq, fun H2 s2 => ⟨_, rfl, hp, [], rfl, same_sqt (s1.trans s2) hs2, fun _ => ?_, fun hw => (hw (by rw [hl]; exact ⟨rfl, rfl⟩)).elim⟩⟩
    have s12 := s1.trans s2
    refine ⟨_, rfl, q, _, _, _, rfl, rfl, same_sqt s12 hq, at0 r, rfl, _, rfl, ifF (w_enter r) ?_⟩
    let M : List (Option V) → Hp → Prop := fun σ' H' => σ' = [some (.ref q), some (.ref sp), some (.int ((st : Int) + ((r.gives : Int) - (r.takes : Int)))), some (.int va), some (.ref hp), some (.int (r.mk1 : Nat))] ∧ Same H H'
    refine ⟨M, ⟨_, rfl, q, _, _, _, rfl, rfl, same_sqt s12 hq, at0 r, (by show 2 ≤ sizeLine; decide), fun t nt => ⟨t, _, rfl, .inr (.inl (.inl upd_same)), rfl, rfl, _, rfl, ?_⟩⟩, ?_⟩
    · have s3 := s12.trans (same_upd (o := .tup [.str "declare", .str "blank"]) nt)
      rcases w_db r with ⟨e, e1⟩ | ⟨e, e1⟩
      · exact ifT e ⟨by rw [e1]; rfl, s3⟩
      · exact ifF e ⟨by rw [e1]; rfl, s3⟩
    rintro σ' H3 ⟨rfl, s3⟩
    refine ⟨_, rfl, _, rfl, _, rfl, q, r, rfl, same_sqt s3 hq, fun H4 s4 => ⟨_, _, rfl, rfl, _, rfl, _, _, rfl, rfl, _, rfl, (by show 3 ≤ sizeLine; decide), fun p np => ?_⟩⟩
    have s34 := s3.trans s4
    have s5 := s34.trans (same_upd (o := .tup [.int ((st : Int) + ((r.gives : Int) - (r.takes : Int))), .int ((va : Int) - (r.ended : Int) + (r.mk1 : Int)), .ref hp]) np)
    refine k _ p s5 ⟨hp, .inl (.inl ?_), same_sqt s5 hs2⟩
    rw [show ((st - r.takes + r.gives : Nat) : Int) = (st : Int) + ((r.gives : Int) - (r.takes : Int)) by omega, show ((va - r.ended + r.mk1 : Nat) : Int) = (va : Int) - (r.ended : Int) + (r.mk1 : Int) by omega]
    exact upd_same
abbrev sFollow : Stmt := top 15
theorem scFollow : FnScope ["row", "index", "shape", "found"] ["row", "index", "shape"] (defScope sFollow) := ⟨rfl, rfl, rfl, by decide +kernel, rfl, by decide +kernel, by decide +kernel⟩
def spFollow (K : PySem.W.Frag) : Sp := fun vs H Q _ => ∃ (q sp : Addr) (i : Nat) (r : Row) (st va : Nat), vs = [.ref q, .int i, .ref sp] ∧ SqT K H q r.vs ∧ ShAt K H sp st va ∧ r.left = 0 ∧ r.takes ≤ st ∧ r.ended ≤ va ∧
  (r.isEnd = true → ∀ H' p, Same H H' → H' p = some (.lst []) → H p = none → Q (.ref p) H') ∧
  (r.isEnd = false → ∀ H' p t s', Same H H' → H' p = some (.lst [.ref t]) → H p = none → SqT K H' t [.int (i + 1 : Nat), .ref s'] → ShAt K H' s' (st - r.takes + r.gives) (va - r.ended + r.mk1) → Q (.ref p) H')
theorem ok_follow {f : Addr} {fd : FuncData} (F : Fun K "following" "following" sFollow f fd) (T : Tb K mg w vA cA eA lA bA) (D : Pd K mg kT kL kE kN uT uL uE uN) (FS : Fun K "shape_behind" "shape_behind" sBehind kS uS) (bS : Binds K uS ["row", "shape"] []) (mS : mg "shape_behind" = some (.ref kS)) :
    FnOk P w K mg base CX0 3 f fd ["row", "index", "shape"] (spFollow K) := by
  have GS : FnOk P w K mg base CX0 2 kS uS ["row", "shape"] (spBehind K) := ok_behind FS T D
  refine F.ok scFollow (fun vs H Q E h => ?_) (fun cdv A outer s H vs Q E hr h => ?_)
  · obtain ⟨q, sp, i, r, st, va, rfl, _⟩ := h
    rfl
  · obtain ⟨q, sp, i, r, st, va, rfl, hq, hs, hl, ht, he, k1, k2⟩ := h
    refine ⟨_, pss_cons (ps_if (pt_cmpR op_in_seq (pe_ix ix_tup (pv 0) pe_int (fun _ _ => rfl)) (pe_gc (v := .ref eA) (by rfl) ⟨_, T.gE, rfl⟩) (by rfl)) (pss_one (ps_ret (pe_lst pa_nil))) pss_nil)
      (pss_cons (ps_set (i := 3) scFollow.nd rfl (.inl rfl) (pe_lst pa_nil))
      (pss_cons (ps_if (pt_cmpR op_in_seq (pe_ix ix_tup (pv 0) pe_int (fun _ _ => rfl)) (pe_gc (v := .ref bA) (by rfl) ⟨_, T.gB, rfl⟩) (by rfl)) (pss_one ps_never) pss_nil)
      (pss_cons (ps_if (pt_cmpR op_notIn_seq (pe_ix ix_tup (pv 0) pe_int (fun _ _ => rfl)) (pe_gc (v := .ref lA) (by rfl) ⟨_, T.gL, rfl⟩) (by rfl)) (pss_one (ps_expr (pe_bm PySem.F.plainAttrs_list PySem.F.slot_list_append PySem.F.type_list_append mt_append (pv 3) (pa_cons (pe_tup (pa_cons (pe_op op_add (pv 1) pe_int) (pa_cons (pe_call GS hr (by rfl) mS FS.kp bS .nil pass0 (pa_cons (pv 0) (pa_cons (pv 2) pa_nil))) pa_nil))) pa_nil)))) pss_nil)
      (pss_one (ps_ret (pv 3)))))), ?_⟩
    refine ⟨_, rfl, q, _, _, _, rfl, rfl, hq, at0 r, eA, _, rfl, .inr (T.tE _), rfl, rfl, _, rfl, ?_⟩
    cases hE : r.isEnd with
    | true => exact ifT ((w_ends r).trans hE) ⟨Nat.zero_le _, fun p np => k1 hE _ p (same_upd np) upd_same np⟩
    | false =>
      refine ifF ((w_ends r).trans hE) ⟨Nat.zero_le _, fun p np => ?_⟩
      have s1 := same_upd (o := .lst []) np
      refine ⟨_, rfl, q, _, _, _, rfl, rfl, same_sqt s1 hq, at0 r, bA, _, rfl, .inr (T.tB _), rfl, rfl, _, rfl, ifF (w_branches r) ?_⟩
      refine ⟨_, rfl, q, _, _, _, rfl, rfl, same_sqt s1 hq, at0 r, lA, _, rfl, .inr (T.tL _), rfl, rfl, _, rfl, ifT (by show (!inV _ _) = true; rw [w_leaps]; rfl) ?_⟩
      refine ⟨_, rfl, .inl ⟨rfl, _, SqL.of upd_same⟩, _, rfl, _, _, rfl, rfl, _, rfl, _, rfl, q, sp, r, st, va, rfl, same_sqt s1 hq, hs.same s1, hl, ht, he, fun H2 s' s2 hs' => ⟨(by show 2 ≤ sizeLine; decide), fun t nt => ?_⟩⟩
      have hp2 := s2 _ _ (upd_same (H := H) (a := p) (o := .lst []))
      have s3 := same_upd (o := .tup [.int ((i : Int) + 1), .ref s']) nt
      have nt' : t ≠ p := fun z => by rw [z, hp2] at nt; cases nt
      refine ⟨p, _, _, rfl, rfl, s3 _ _ hp2, (by decide), ?_⟩
      refine ⟨_, rfl, k2 hE _ p t s' (My.Same.put (s1.trans (s2.trans s3)) np) upd_same np (.inl (.inl ?_)) ((hs'.same s3).keep keep_upd (s3 _ _ hp2))⟩
      rw [upd_ne nt', upd_same]
      rfl
end
end My
namespace My
open PySem L2 SX
open C8 (pss_cut tCut cutS_slice pe_gc)
def PairsAt (H : Hp) : List V → List (Nat × Nat) → Prop
  | [], [] => True
  | v :: vs, c :: cs => (∃ q, v = V.ref q ∧ H q = some (.tup [.int (c.1 : Nat), .int (c.2 : Nat)])) ∧ PairsAt H vs cs
  | _, _ => False
theorem PairsAt.len {H : Hp} : ∀ {vs : List V} {cs : List (Nat × Nat)}, PairsAt H vs cs → vs.length = cs.length
  | [], [], _ => rfl
  | _ :: _, _ :: _, h => by
    have := PairsAt.len h.2
    simp [this]
  | [], _ :: _, h => h.elim
  | _ :: _, [], h => h.elim
theorem PairsAt.app {H : Hp} {vs' : List V} {cs' : List (Nat × Nat)} (h1 : PairsAt H vs' cs') : ∀ {vs : List V} {cs : List (Nat × Nat)}, PairsAt H vs cs → PairsAt H (vs ++ vs') (cs ++ cs')
  | [], [], _ => h1
  | _ :: _, _ :: _, h => ⟨h.1, PairsAt.app h1 h.2⟩
  | [], _ :: _, h => h.elim
  | _ :: _, [], h => h.elim
theorem PairsAt.imp {H H' : Hp} (s : ∀ b xs, H b = some (.tup xs) → H' b = some (.tup xs)) : ∀ {vs : List V} {cs : List (Nat × Nat)}, PairsAt H vs cs → PairsAt H' vs cs
  | [], [], _ => trivial
  | _ :: _, _ :: _, ⟨⟨q, e, h⟩, r⟩ => ⟨⟨q, e, s _ _ h⟩, PairsAt.imp s r⟩
  | [], _ :: _, h => h.elim
  | _ :: _, [], h => h.elim
theorem PairsAt.get {H : Hp} : ∀ {vs : List V} {cs : List (Nat × Nat)} {i : Nat} {c : Nat × Nat}, PairsAt H vs cs → cs[i]? = some c → ∃ q, vs[i]? = some (V.ref q) ∧ H q = some (.tup [.int (c.1 : Nat), .int (c.2 : Nat)])
  | [], [], _, _, _, e => by simp at e
  | _ :: _, _ :: _, 0, c, ⟨⟨q, e1, h⟩, _⟩, e => by
    simp at e
    subst e e1
    exact ⟨q, rfl, h⟩
  | _ :: vs, _ :: cs, i + 1, c, h, e => by
    simp at e
    obtain ⟨q, e1, e2⟩ := PairsAt.get h.2 e
    exact ⟨q, by simpa using e1, e2⟩
  | [], _ :: _, _, _, h, _ => h.elim
  | _ :: _, [], _, _, h, _ => h.elim
/-- the functions made behind each shape -/
def cloAll : List Row → List (Nat × Nat) → List (Nat × Nat)
  | r :: rs, s :: ss => r.clos s.2 ++ cloAll rs ss
  | _, _ => []
theorem cloAll_snoc : ∀ {rows : List Row} {shs : List (Nat × Nat)} {r : Row} {s : Nat × Nat}, rows[shs.length]? = some r → cloAll rows (shs ++ [s]) = cloAll rows shs ++ r.clos s.2
  | [], _, _, _, e => by simp at e
  | r :: rows, [], r', s, e => by
    simp at e
    subst e
    simp [cloAll]
  | r :: rows, _ :: shs, r', s, e => by
    simp at e
    simp [cloAll, cloAll_snoc e, List.append_assoc]
theorem cloAll_take {rows : List Row} {shs : List (Nat × Nat)} {j : Nat} {r : Row} {s : Nat × Nat} (h1 : rows[j]? = some r) (h2 : shs[j]? = some s) : cloAll rows (shs.take (j + 1)) = cloAll rows (shs.take j) ++ r.clos s.2 := by
  have hj : j < shs.length := (List.getElem?_eq_some_iff.mp h2).1
  have e : shs.take (j + 1) = shs.take j ++ [s] := by
    rw [List.take_succ, h2]
    rfl
  rw [e]
  exact cloAll_snoc (by rw [List.length_take, Nat.min_eq_left (by omega)]; exact h1)
theorem cloAll_nil {rows : List Row} : cloAll rows [] = [] := by
  cases rows <;> rfl
/-- the dict of the shapes, by index -/
def ShapesAt (K : PySem.W.Frag) (H : Hp) (kvs : List (Key × V)) (shs : List (Nat × Nat)) : Prop := kvs.length = shs.length ∧ ∀ (j : Nat) (s : Nat × Nat), shs[j]? = some s → ∃ p : Addr, kvs[j]? = some ((Sum.inl (j : Int) : Key), V.ref p) ∧ ShAt K H p s.1 s.2
theorem ShapesAt.imp {K : PySem.W.Frag} {H H' : Hp} {kvs : List (Key × V)} {shs : List (Nat × Nat)} (s : ∀ p st va, ShAt K H p st va → ShAt K H' p st va) (h : ShapesAt K H kvs shs) : ShapesAt K H' kvs shs :=
  ⟨h.1, fun j x e => let ⟨p, e1, e2⟩ := h.2 j x e; ⟨p, e1, s _ _ _ e2⟩⟩
section
variable {P : Program} {w : World} {K : PySem.W.Frag} {mg : Str → Option Value} {base : Heap}
abbrev sMade : Stmt := top 9
theorem scMade : FnScope ["rows", "shapes", "index", "_", "variables"] ["rows", "shapes"] (defScope sMade) := ⟨rfl, rfl, rfl, by decide +kernel, rfl, by decide +kernel, by decide +kernel⟩
def spMade (K : PySem.W.Frag) : Sp := fun vs H Q _ => ∃ (rl d : Addr) (qs : List Addr) (rows : List Row) (kvs : List (Key × V)) (shs : List (Nat × Nat)), vs = [.ref rl, .ref d] ∧ H rl = some (.lst (qs.map V.ref)) ∧ RowsAt K H qs rows ∧ H d = some (.dK kvs) ∧ ShapesAt K H kvs shs ∧
  shs.length ≤ rows.length ∧ rows.length ≤ 100 ∧ ∀ H' D ts, Same H H' → H D = none → H' D = some (.lst ts) → PairsAt H' ts (cloAll rows shs) → Q (.ref D) H'
theorem ok_made {f : Addr} {fd : FuncData} (F : Fun K "functions_made" "functions_made" sMade f fd) : FnOk P w K mg base CX0 1 f fd ["rows", "shapes"] (spMade K) := by
  refine F.ok scMade (fun vs H Q E h => ?_) (fun cdv A outer s H vs Q E hr h => ?_)
  · obtain ⟨rl, d, qs, rows, kvs, shs, rfl, _⟩ := h
    rfl
  · obtain ⟨rl, d, qs, rows, kvs, shs, rfl, hrl, hrows, hd, hsh, hlen, h100, k⟩ := h
    have nd := scMade.nd
    refine ⟨_, pss_one (ps_ret (pe_lock (pe_lc (own := [("index", 2), ("_", 3), ("variables", 4)]) (g := gTup K 2 (gCons (gName 2) (gCons (gTup K 3 (gCons (gName 3) (gCons (gName 4) (gCons (gName 3) gNil)))) gNil))) (tt := tTest (tOp rEq (tOp (rIxT K) (tOp (rIxL K) (tVar 0) (tVar 2)) (tC (.int 0))) (tC (.str "closure")))) (te := tTup (tCons (tOp (rIxT K) (tOp (rIxL K) (tVar 0) (tVar 2)) (tC (.int 1))) (tCons (tOp (rI0 fun i j => .int (i + j)) (tOp (rIxT K) (tOp (rIxL K) (tVar 0) (tVar 2)) (tC (.int 2))) (tVar 4)) tNil))) (by rfl) nd (pi_items (pv 1)) (blkOk_by (own := [("index", 2), ("_", 3), ("variables", 4)]) (N := ["rows", "shapes", "index", "_", "variables"]) (sc := defScope sMade) (by decide +kernel))
      (fun _ _ _ _ _ => pg_tup (by rfl) (pgs_cons (pg_name (i := 2) nd rfl (.inl rfl)) (pgs_cons (pg_tup (by rfl) (pgs_cons (pg_name (i := 3) nd rfl (.inl rfl)) (pgs_cons (pg_name (i := 4) nd rfl (.inl rfl)) (pgs_cons (pg_name (i := 3) nd rfl (.inl rfl)) pgs_nil)))) pgs_nil)))
      (fun _ _ _ _ _ => pts_one (pt_cmpR op_eq (pe_ix ix_tup (pe_ix ix_list (pv 0) (pv 2) (fun _ _ => rfl)) pe_int (fun _ _ => rfl)) pe_str (nomark _)))
      (fun _ _ _ _ _ => pe_tup (pa_cons (pe_ix ix_tup (pe_ix ix_list (pv 0) (pv 2) (fun _ _ => rfl)) pe_int (fun _ _ => rfl)) (pa_cons (pe_op op_add (pe_ix ix_tup (pe_ix ix_list (pv 0) (pv 2) (fun _ _ => rfl)) pe_int (fun _ _ => rfl)) (pv 4)) pa_nil)))))), ?_⟩
    refine ⟨d, _, hd, True.intro, fun od => ?_⟩
    refine ⟨_, rfl, d, od, kvs, rfl, upd_same, fun D nD => lc_it walk_items (fun j H' => ∃ ts, H' D = some (.lst ts) ∧ H' d = some (.frz od (.dK kvs)) ∧ (∀ b ob, H b = some ob → b ≠ d → H' b = some ob) ∧ PairsAt H' ts (cloAll rows (shs.take j)) ∧ ts.length ≤ j) ?_ (fun j H' _ ⟨_, _, h, _⟩ => h) ?_ ?_⟩
    · have nDd : d ≠ D := fun z => by rw [← z, upd_same] at nD; cases nD
      refine ⟨[], upd_same, by rw [upd_ne nDd, upd_same], fun b ob e n => ?_, (by rw [List.take_zero, cloAll_nil]; exact trivial), Nat.le_refl _⟩
      rw [upd_ne (fun z => by rw [z] at e; rw [← z, upd_ne n] at nD; rw [z] at nD; rw [nD] at e; cases e), upd_ne n]
      exact e
    · rintro j x H1 H2 hj ⟨ts, h1, h2, h3, h4, h5⟩ ⟨T, va', vb', rfl, nT, rfl, ea, eb⟩
      obtain ⟨hsl, hsg⟩ := hsh
      have hjs : j < shs.length := by omega
      obtain ⟨s, hs⟩ : ∃ s, shs[j]? = some s := ⟨_, List.getElem?_eq_getElem hjs⟩
      obtain ⟨p, ep, hp⟩ := hsg j s hs
      have ea2 : some (V.int (j : Int)) = some va' := by
        rw [← ea]
        show _ = Option.map _ kvs[j]?
        rw [ep]
        rfl
      have eb2 : some (V.ref p) = some vb' := by
        rw [← eb]
        show _ = Option.map _ kvs[j]?
        rw [ep]
        rfl
      obtain rfl : V.int (j : Int) = va' := Option.some.inj ea2
      obtain rfl : V.ref p = vb' := Option.some.inj eb2
      have hjr : j < rows.length := by omega
      obtain ⟨r, hr'⟩ : ∃ r, rows[j]? = some r := ⟨_, List.getElem?_eq_getElem hjr⟩
      obtain ⟨q, hq1, hq2⟩ := hrows.get hr'
      have up : ∀ b ob, H b = some ob → b ≠ d → upd H1 T (.tup [.int (j : Int), .ref p]) b = some ob := fun b ob e n => by
        rw [upd_ne (ne_of_none (h3 b ob e n) nT)]
        exact h3 b ob e n
      have sq : ∀ {a : Addr} {xs : List V}, SqT K H a xs → SqT K (upd H1 T (.tup [.int (j : Int), .ref p])) a xs := fun {a xs} h => by
        rcases h with (h | ⟨ob, h⟩) | h
        · exact .inl (.inl (up _ _ h fun z => by rw [z, hd] at h; cases h))
        · exact .inl (.inr ⟨ob, up _ _ h fun z => by rw [z, hd] at h; cases h⟩)
        · exact .inr h
      obtain ⟨hpp, hs1, hs2⟩ := hp
      have hrl2 : SqL K (upd H1 T (.tup [.int (j : Int), .ref p])) rl (qs.map V.ref) := SqL.of (up _ _ hrl fun z => by rw [z, hd] at hrl; cases hrl)
      have gq : (qs.map V.ref)[j]? = some (V.ref q) := by rw [List.getElem?_map, hq1]; rfl
      have nTD : T ≠ D := fun z => by rw [z, h1] at nT; cases nT
      refine ⟨T, _, rfl, .inl (.inl upd_same), rfl, _, _, rfl, _, _, rfl, p, _, rfl, sq hs1, rfl, _, _, rfl, _, _, rfl, _, _, rfl, rfl, rfl, rfl, ?_⟩
      refine ⟨_, rfl, _, rfl, rl, _, _, _, rfl, rfl, hrl2, atI_nat gq, q, _, _, _, rfl, rfl, sq hq2, at0 r, rfl, _, rfl, ?_⟩
      have stay : ∃ ts', (upd H1 T (.tup [.int (j : Int), .ref p])) D = some (.lst ts') ∧ (upd H1 T (.tup [.int (j : Int), .ref p])) d = some (.frz od (.dK kvs)) ∧ (∀ b ob, H b = some ob → b ≠ d → (upd H1 T (.tup [.int (j : Int), .ref p])) b = some ob) ∧ PairsAt (upd H1 T (.tup [.int (j : Int), .ref p])) ts' (cloAll rows (shs.take j)) ∧ ts'.length ≤ j :=
        ⟨ts, by rw [upd_ne (Ne.symm nTD)]; exact h1, by rw [upd_ne (fun z => by rw [z] at h2; rw [h2] at nT; cases nT)]; exact h2, up, h4.imp (fun b xs e => by rw [upd_ne (ne_of_none e nT)]; exact e), h5⟩
      rcases w_closure r with ⟨f, n, rfl, e⟩ | ⟨e, ec, _⟩
      · refine ifT e ?_
        obtain ⟨ts', g1, g2, g3, g4, g5⟩ := stay
        have hq3 := sq hq2
        refine ⟨_, rfl, _, rfl, rl, _, _, _, rfl, rfl, hrl2, atI_nat gq, q, _, _, _, rfl, rfl, hq3, at1_clo f n, _, rfl, _, rfl, rl, _, _, _, rfl, rfl, hrl2, atI_nat gq, q, _, _, _, rfl, rfl, hq3, at2_clo f n, _, rfl, _, _, rfl, rfl, (by show 2 ≤ sizeLine; decide), fun t nt => ?_⟩
        have ntD : t ≠ D := fun z => by rw [z, g1] at nt; cases nt
        have ntd : t ≠ d := fun z => by rw [z, g2] at nt; cases nt
        have nDd : D ≠ d := fun z => by rw [z, g2] at g1; cases g1
        refine ⟨ts', by rw [upd_ne (Ne.symm ntD)]; exact g1, (Nat.lt_of_lt_of_le (m := 101) (by omega) (by decide)), ts' ++ [.ref t], upd_same, by rw [upd_ne (Ne.symm nDd), upd_ne (Ne.symm ntd)]; exact g2, fun b ob e n => ?_, ?_, by simp; omega⟩
        · have hb := g3 b ob e n
          by_cases bD : b = D
          · rw [bD] at e n
            rw [upd_ne n, e] at nD
            cases nD
          · rw [upd_ne bD, upd_ne (ne_of_none hb nt)]
            exact hb
        · rw [cloAll_take hr' hs]
          refine PairsAt.app (vs' := [V.ref t]) (cs' := [(f, n + s.2)]) ⟨⟨t, rfl, ?_⟩, trivial⟩ (g4.imp fun b xs e => ?_)
          · rw [upd_ne ntD, upd_same]
            rfl
          · rw [upd_ne (fun z => by rw [z, g1] at e; cases e), upd_ne (ne_of_none e nt)]
            exact e
      · refine ifF e ?_
        obtain ⟨ts', g1, g2, g3, g4, g5⟩ := stay
        refine ⟨ts', g1, g2, g3, ?_, by omega⟩
        rw [cloAll_take hr' hs, ec, List.append_nil]
        exact g4
    · rintro H1 ⟨ts, h1, h2, h3, h4, h5⟩
      have nDd : D ≠ d := fun z => by rw [z, upd_same] at nD; cases nD
      refine ⟨h2, k (upd H1 d (.dK kvs)) D ts (fun b ob e => ?_) (by rw [upd_ne nDd] at nD; exact nD) (by rw [upd_ne nDd]; exact h1) ?_⟩
      · by_cases n : b = d
        · rw [n, upd_same]
          rw [n, hd] at e
          exact e
        · rw [upd_ne n]
          exact h3 b ob e n
      · rw [show shs = shs.take kvs.length by rw [hsh.1, List.take_length]]
        exact h4.imp fun b xs e => by
          rw [upd_ne (fun z => by rw [z, h2] at e; cases e)]
          exact e
end
end My
namespace My
open PySem L2 SX
open C8 (pss_cut tCut cutS_slice pe_gc)
theorem sNew {H H' : Hp} {p : Addr} (s : Same H H') (h : H' p = none) : H p = none := by
  cases e : H p with
  | none => rfl
  | some o =>
    rw [s _ _ e] at h
    cases h
theorem sqt_upd {K : PySem.W.Frag} {H : Hp} {p r : Addr} {o : HO} {xs : List V} (h : SqT K H r xs) (hp : (∃ ys, H p = some (.lst ys)) ∨ (∃ ks, H p = some (.dK ks)) ∨ H p = none) : SqT K (upd H p o) r xs := by
  rcases h with (h | ⟨ob, h⟩) | h
  · exact .inl (.inl (by rw [upd_ne fun z => by rw [z] at h; rcases hp with ⟨_, e⟩ | ⟨_, e⟩ | e <;> (rw [e] at h; cases h)]; exact h))
  · exact .inl (.inr ⟨ob, by rw [upd_ne fun z => by rw [z] at h; rcases hp with ⟨_, e⟩ | ⟨_, e⟩ | e <;> (rw [e] at h; cases h)]; exact h⟩)
  · exact .inr h
theorem ShAt.upd {K : PySem.W.Frag} {H : Hp} {p q : Addr} {o : HO} {st va : Nat} (h : ShAt K H q st va) (hp : (∃ ys, H p = some (.lst ys)) ∨ (∃ ks, H p = some (.dK ks)) ∨ H p = none) : ShAt K (upd H p o) q st va := by
  obtain ⟨hp', h1, h2⟩ := h
  exact ⟨hp', sqt_upd h1 hp, sqt_upd h2 hp⟩
theorem shapes_none {K : PySem.W.Frag} {H : Hp} {kvs : List (Key × V)} {shs : List (Nat × Nat)} (h : ShapesAt K H kvs shs) {i : Nat} (hi : shs.length ≤ i) : valV kvs (Sum.inl (i : Int) : Key) = none := by
  cases e : valV kvs (Sum.inl (i : Int) : Key) with
  | none => rfl
  | some v =>
    have m := valV_in e
    obtain ⟨x, hx, ex⟩ := List.mem_map.mp m
    obtain ⟨j, hj, ej⟩ := List.getElem_of_mem hx
    have hj' : j < shs.length := by rw [← h.1]; exact hj
    obtain ⟨p, ep, _⟩ := h.2 j _ (List.getElem?_eq_getElem hj')
    rw [List.getElem?_eq_getElem hj, ej] at ep
    rw [Option.some.inj ep] at ex
    have : (j : Int) = i := Sum.inl.inj ex
    omega
theorem ShapesAt.snoc {K : PySem.W.Frag} {H : Hp} {kvs : List (Key × V)} {shs : List (Nat × Nat)} {st va : Nat} {p : Addr} (h : ShapesAt K H kvs shs) (hp : ShAt K H p st va) : ShapesAt K H (kvs ++ [((Sum.inl (shs.length : Int) : Key), V.ref p)]) (shs ++ [(st, va)]) := by
  refine ⟨by simp [h.1], fun j s e => ?_⟩
  by_cases hj : j < shs.length
  · rw [List.getElem?_append_left hj] at e
    obtain ⟨q, e1, e2⟩ := h.2 j s e
    exact ⟨q, by rw [List.getElem?_append_left (by rw [h.1]; exact hj)]; exact e1, e2⟩
  · have hl : j < shs.length + 1 := by
      have := (List.getElem?_eq_some_iff.mp e).1
      simpa using this
    obtain rfl : j = shs.length := by omega
    rw [List.getElem?_concat_length] at e
    cases e
    exact ⟨p, by rw [← h.1, List.getElem?_concat_length], hp⟩
theorem fault_none {cs : List Ch} {r : Row} {st va : Nat} (h : fault cs r st va = none) : r.takes ≤ st ∧ r.left = 0 ∧ r.ended ≤ va := by
  unfold fault at h
  split at h
  · cases h
  split at h
  · cases h
  split at h
  · cases h
  split at h
  · cases h
  refine ⟨by omega, by omega, ?_⟩
  have : r.ended ≤ r.need := by cases r <;> simp [Row.ended, Row.need]
  omega
theorem drop_at {rows : List Row} {i : Nat} {r : Row} (h : rows[i]? = some r) : rows.drop i = r :: rows.drop (i + 1) := by
  have hi := (List.getElem?_eq_some_iff.mp h).1
  have := (List.getElem?_eq_some_iff.mp h).2
  rw [List.drop_eq_getElem_cons hi, this]
section
variable {P : Program} {w : World} {K : PySem.W.Frag} {mg : Str → Option Value} {base : Heap} {vA cA eA lA bA cC kT kL kE kN kS kM kF kO : Addr} {uT uL uE uN uS uM uF uO : FuncData}
structure Pc (K : PySem.W.Frag) (mg : Str → Option Value) (kS kM kF kO : Addr) (uS uM uF uO : FuncData) : Prop where
  fS : Fun K "shape_behind" "shape_behind" sBehind kS uS
  bS : Binds K uS ["row", "shape"] []
  gS : mg "shape_behind" = some (.ref kS)
  fM : Fun K "functions_made" "functions_made" sMade kM uM
  bM : Binds K uM ["rows", "shapes"] []
  gM : mg "functions_made" = some (.ref kM)
  fF : Fun K "fault_of" "fault_of" sFault kF uF
  bF : Binds K uF ["row", "shape", "by_number"] []
  gF : mg "fault_of" = some (.ref kF)
  fO : Fun K "following" "following" sFollow kO uO
  bO : Binds K uO ["row", "index", "shape"] []
  gO : mg "following" = some (.ref kO)
abbrev sCheck : Stmt := top 8
theorem scCheck : FnScope ["by_number", "number", "variables", "rows", "shapes", "reached", "index", "shape", "message"] ["by_number", "number", "variables"] (defScope sCheck) := ⟨rfl, rfl, rfl, by decide +kernel, rfl, by decide +kernel, by decide +kernel⟩
/-- what check_function tells -/
def CheckAt (H : Hp) (n : Nat) (fl md : Addr) : Option (Nat × Str) × List (Nat × Nat) → Prop
  | (some (i, m), _) => (∃ t, H fl = some (.lst [.ref t]) ∧ H t = some (.tup [.int n, .int i, .str m])) ∧ H md = some (.lst [])
  | (none, cl) => H fl = some (.lst []) ∧ ∃ ts, H md = some (.lst ts) ∧ PairsAt H ts cl
def spCheck (K : PySem.W.Frag) (cC : Addr) : Sp := fun vs H Q _ => ∃ (b : Addr) (n va : Nat) (cs : List Ch) (ch : Ch), vs = [.ref b, .int n, .int va] ∧ BnAt K cC H b cs ∧ fstC cs n = some ch ∧ ch.rows.length ≤ 100 ∧
  ∀ H' p fl md, Same H H' → H' p = some (.tup [.ref fl, .ref md]) → H fl = none → H md = none → CheckAt H' n fl md (walk cs ch.rows 0 0 va []) → Q (.ref p) H'
theorem ok_check {f : Addr} {fd : FuncData} (F : Fun K "check_function" "check_function" sCheck f fd) (B : Bl mg) (T : Tb K mg w vA cA eA lA bA) (C : Cc K mg cC) (D : Pd K mg kT kL kE kN uT uL uE uN) (E2 : Pc K mg kS kM kF kO uS uM uF uO) : FnOk P w K mg base CX0 4 f fd ["by_number", "number", "variables"] (spCheck K cC) := by
  have GF : FnOk P w K mg base CX0 3 kF uF ["row", "shape", "by_number"] (spFault K cC) := ok_fault E2.fF B T C D
  have GM : FnOk P w K mg base CX0 1 kM uM ["rows", "shapes"] (spMade K) := ok_made E2.fM
  have GO : FnOk P w K mg base CX0 3 kO uO ["row", "index", "shape"] (spFollow K) := ok_follow E2.fO T D E2.fS E2.bS E2.gS
  refine F.ok scCheck (fun vs H Q E h => ?_) (fun cdv A outer s H vs Q E hr h => ?_)
  · obtain ⟨b, n, va, cs, ch, rfl, _⟩ := h
    rfl
  · obtain ⟨b, n, va, cs, ch, rfl, hb, hch, h100, k⟩ := h
    have nd := scCheck.nd
    have h1 : Room 1 _ := hr.mono (by decide)
    have h3 : Room 3 _ := hr.mono (by decide)
    refine ⟨_, pss_cons (ps_set (i := 3) nd rfl (.inl rfl) (pe_fld (pe_dget (hu_of hr) (pv 0) (pv 1) (fun _ _ => rfl)) rfl))
      (pss_cons (ps_set (i := 4) nd rfl (.inl rfl) pe_dnewK)
      (pss_cons (ps_set (i := 5) nd rfl (.inl rfl) (pe_lst (pa_cons (pe_tup (pa_cons pe_int (pa_cons (pe_tup (pa_cons pe_int (pa_cons (pv 2) (pa_cons (pe_tup pa_nil) pa_nil)))) pa_nil))) pa_nil)))
      (pss_cons (ps_while PassesOwn.never (pt_truth (pv 5) (by intro _; rfl))
        (pss_cons (ps_asg (pe_bm0 PySem.F.plainAttrs_list PySem.F.slot_list_pop PySem.F.type_list_pop mt_pop (pv 5)) (pg_tup (by rfl) (pgs_cons (pg_name (i := 6) nd rfl (.inl rfl)) (pgs_cons (pg_name (i := 7) nd rfl (.inl rfl)) pgs_nil))))
        (pss_cons (ps_if (pt_cmpR op_ge (pv 6) (pe_callB call_len_seq (by rfl) B.len PySem.boot_len (pa_cons (pv 3) pa_nil)) (nomark _)) (pss_one (ps_ret (pe_tup (pa_cons (pe_lst (pa_cons (pe_tup (pa_cons (pv 1) (pa_cons (pv 6) (pa_cons pe_str pa_nil)))) pa_nil)) (pa_cons (pe_lst pa_nil) pa_nil))))) pss_nil)
        (pss_cons (ps_if (PW.pt (pw_and (pt_cmp (pc_din (hu_of hr) (pv 6) (pv 4))) (pw_and1 (pt_cmpR op_ne (pe_dget (hu_of hr) (pv 4) (pv 6) (fun _ _ => rfl)) (pv 7) (nomark _))))) (pss_one ps_never) pss_nil)
        (pss_one (ps_if (pt_cmp (pc_dnotin (hu_of hr) (pv 6) (pv 4)))
          (pss_cons (ps_set (i := 8) nd rfl (.inl rfl) (pe_call GF h3 (by rfl) E2.gF E2.fF.kp E2.bF .nil pass0 (pa_cons (pe_ix ix_list (pv 3) (pv 6) (fun _ _ => rfl)) (pa_cons (pv 7) (pa_cons (pv 0) pa_nil)))))
          (pss_cons (ps_if (pt_cmp (pc_notN (pv 8))) (pss_one (ps_ret (pe_tup (pa_cons (pe_lst (pa_cons (pe_tup (pa_cons (pv 1) (pa_cons (pv 6) (pa_cons (pv 8) pa_nil)))) pa_nil)) (pa_cons (pe_lst pa_nil) pa_nil))))) pss_nil)
          (pss_cons (ps_dput (hu_of hr) (pv 4) (pv 6) (pv 7) (by rfl))
          (pss_one (ps_expr (pe_bm PySem.F.plainAttrs_list PySem.F.slot_list_extend PySem.F.type_list_extend mt_extend (pv 5) (pa_cons (pe_call GO h3 (by rfl) E2.gO E2.fO.kp E2.bO .nil pass0 (pa_cons (pe_ix ix_list (pv 3) (pv 6) (fun _ _ => rfl)) (pa_cons (pv 6) (pa_cons (pv 7) pa_nil)))) pa_nil))))))) pss_nil))))))
      (pss_one (ps_ret (pe_tup (pa_cons (pe_lst pa_nil) (pa_cons (pe_call GM h1 (by rfl) E2.gM E2.fM.kp E2.bM .nil pass0 (pa_cons (pv 3) (pa_cons (pv 4) pa_nil))) pa_nil)))))))), ?_⟩
    obtain ⟨kvs, hk1, _, hk2⟩ := id hb
    have hf := hk2 n
    rw [hch] at hf
    obtain ⟨a, ea, dx, rl, sl, qs, ha, hrl, hrows⟩ := hf
    refine ⟨_, rfl, _, rfl, b, _, rfl, (by rw [← ea]; exact DGet.k (k := Sum.inl (n : Int)) hk1), a, cC, dx, _, _, rfl, ha, C.cl, C.n3, ch_rows _ _ _, ?_⟩
    refine fun d nd0 => ?_
    refine ⟨_, rfl, (by show 0 ≤ sizeLine; decide), fun e0 ne0 => ⟨(by show 3 ≤ sizeLine; decide), fun sp0 nsp0 => ⟨(by show 2 ≤ sizeLine; decide), fun t0 nt0 => ⟨(by show 1 ≤ sizeLine; decide), fun rch nrch => ?_⟩⟩⟩⟩
    have ndr : d ≠ rch := fun z => by
      rw [← z, upd_ne (ne_of_none (upd_ne (ne_of_none (upd_ne (ne_of_none upd_same ne0) |>.trans upd_same) nsp0) |>.trans ((upd_ne (ne_of_none upd_same ne0)).trans upd_same)) nt0)] at nrch
      rw [upd_ne (ne_of_none ((upd_ne (ne_of_none upd_same ne0)).trans upd_same) nsp0), upd_ne (ne_of_none upd_same ne0), upd_same] at nrch
      cases nrch
    have sa : Same H (upd H d (.dK [])) := same_upd nd0
    have sb := sa.trans (same_upd (o := .tup []) ne0)
    have sc := sb.trans (same_upd (o := .tup [.int 0, .int va, .ref e0]) nsp0)
    have sd := sc.trans (same_upd (o := .tup [.int 0, .ref sp0]) nt0)
    have nrchH : H rch = none := sNew sd nrch
    -- an answer with a flaw
    have bad : ∀ (H3 : Hp) (i : Nat) (m : Str) (cl : List (Nat × Nat)), Same H H3 → walk cs ch.rows 0 0 va [] = (some (i, m), cl) → ∀ t fl md p : Addr, H3 t = none → upd H3 t (.tup [.int n, .int i, .str m]) fl = none → upd (upd H3 t (.tup [.int n, .int i, .str m])) fl (.lst [.ref t]) md = none →
        upd (upd (upd H3 t (.tup [.int n, .int i, .str m])) fl (.lst [.ref t])) md (.lst []) p = none → Q (.ref p) (upd (upd (upd (upd H3 t (.tup [.int n, .int i, .str m])) fl (.lst [.ref t])) md (.lst [])) p (.tup [.ref fl, .ref md])) := fun H3 i m cl s3 ew t fl md p n1 n2 n3 n4 => by
      have u1 := same_upd (o := .tup [.int n, .int i, .str m]) n1
      have u2 := same_upd (o := .lst [.ref t]) n2
      have u3 := same_upd (o := .lst []) n3
      have u4 := same_upd (o := .tup [.ref fl, .ref md]) n4
      refine k _ p fl md (s3.trans (u1.trans (u2.trans (u3.trans u4)))) upd_same (sNew s3 (sNew u1 n2)) (sNew s3 (sNew u1 (sNew u2 n3))) ?_
      rw [ew]
      exact ⟨⟨t, u4 _ _ (u3 _ _ upd_same), u4 _ _ (u3 _ _ (u2 _ _ upd_same))⟩, u4 _ _ upd_same⟩
    let W : Nat → St → Hp → Prop := fun m σ H' => ∃ (x y z : Option V) (i st v : Nat) (shs : List (Nat × Nat)) (kv : List (Key × V)) (rs : List V),
      σ = [some (.ref b), some (.int n), some (.int va), some (.ref rl), some (.ref d), some (.ref rch), x, y, z] ∧ Same H H' ∧ H' d = some (.dK kv) ∧ ShapesAt K H' kv shs ∧ shs.length ≤ ch.rows.length ∧ H' rch = some (.lst rs) ∧
      ((rs = [] ∧ m = 0 ∧ walk cs ch.rows 0 0 va [] = (none, cloAll ch.rows shs)) ∨
        (∃ t sp, rs = [.ref t] ∧ SqT K H' t [.int i, .ref sp] ∧ ShAt K H' sp st v ∧ i = shs.length ∧ m + i = ch.rows.length + 1 ∧ walk cs ch.rows 0 0 va [] = walk cs (ch.rows.drop i) i st v (cloAll ch.rows shs)))
    refine ⟨W, ⟨ch.rows.length + 1, none, none, none, 0, 0, va, [], [], _, rfl, My.Same.put sd nrchH, ?_, ⟨rfl, fun j s e => by simp at e⟩, Nat.zero_le _, upd_same, .inr ⟨t0, sp0, rfl, ?_, ⟨e0, ?_, ?_⟩, rfl, rfl, ?_⟩⟩, ?_⟩
    · rw [upd_ne ndr]
      exact (same_upd nt0) _ _ ((same_upd nsp0) _ _ ((same_upd ne0) _ _ upd_same))
    · exact sqt_upd (.inl (.inl upd_same)) (.inr (.inr nrch))
    · exact sqt_upd (.inl (.inl ((same_upd nt0) _ _ upd_same))) (.inr (.inr nrch))
    · exact sqt_upd (.inl (.inl ((same_upd nt0) _ _ ((same_upd nsp0) _ _ upd_same)))) (.inr (.inr nrch))
    · rw [cloAll_nil]
      rfl
    rintro m σ H1 ⟨x, y, z, i, st, v, shs, kv, rs, rfl, s1, hd1, hsh, hlen, hr1, hW⟩
    have hrl1 := s1 _ _ hrl
    rcases hW with ⟨rfl, rfl, ew⟩ | ⟨t, sp, rfl, ht1, hs1, ei, em, ew⟩
    · refine ⟨_, rfl, false, .inl ⟨[], SqL.of hr1, rfl⟩, iteF ⟨Nat.zero_le _, fun fl nfl => ?_⟩⟩
      have u1 := same_upd (o := .lst []) nfl
      refine ⟨_, rfl, _, rfl, rl, d, qs, ch.rows, kv, shs, rfl, u1 _ _ hrl1, (hrows.same s1).same u1, u1 _ _ hd1, hsh.imp (fun p st va hh => hh.same u1), hlen, h100, fun H2 D2 ts s2 nD hD hP => ⟨(by show 2 ≤ sizeLine; decide), fun p np => ?_⟩⟩
      have u3 := same_upd (o := .tup [.ref fl, .ref D2]) np
      refine k _ p fl D2 (s1.trans (u1.trans (s2.trans u3))) upd_same (sNew s1 nfl) (sNew s1 (sNew u1 nD)) ?_
      rw [ew]
      exact ⟨u3 _ _ (s2 _ _ upd_same), ts, u3 _ _ hD, hP.imp fun b xs e => u3 _ _ e⟩
    · refine ⟨_, rfl, true, .inl ⟨_, SqL.of hr1, rfl⟩, iteT ⟨_, fun σ' H' h => h, ?_⟩⟩
      have ht2 : SqT K (upd H1 rch (.lst [])) t [.int i, .ref sp] := sqt_upd ht1 (.inl ⟨_, hr1⟩)
      have hs2 : ShAt K (upd H1 rch (.lst [])) sp st v := hs1.upd (.inl ⟨_, hr1⟩)
      have s2 : Same H (upd H1 rch (.lst [])) := My.Same.put s1 nrchH
      have hd2 : (upd H1 rch (.lst [])) d = some (.dK kv) := by rw [upd_ne ndr]; exact hd1
      have hsh2 : ShapesAt K (upd H1 rch (.lst [])) kv shs := hsh.imp fun p st va hh => hh.upd (.inl ⟨_, hr1⟩)
      refine ⟨_, rfl, .inl ⟨rfl, _, SqL.of hr1⟩, rch, [.ref t], .ref t, rfl, rfl, hr1, rfl, t, _, rfl, ht2, rfl, _, _, rfl, _, _, rfl, rfl, ?_⟩
      refine ⟨_, rfl, _, rfl, rl, _, rfl, .inl (SqL.of (s2 _ _ hrl)), _, _, rfl, rfl, _, rfl, ?_⟩
      by_cases hi : i < ch.rows.length
      · refine ifF (by simp [hrows.len]; omega) ?_
        obtain ⟨r, hr'⟩ : ∃ r, ch.rows[i]? = some r := ⟨_, List.getElem?_eq_getElem hi⟩
        obtain ⟨q, hq1, hq0⟩ := hrows.get hr'
        have hq2 := same_sqt s2 hq0
        have gq : (qs.map V.ref)[i]? = some (V.ref q) := by rw [List.getElem?_map, hq1]; rfl
        have hno : valV kv (Sum.inl (i : Int) : Key) = none := shapes_none hsh (by omega)
        have hg : DGet (upd H1 rch (.lst [])) d (.int i) none := by
          rw [← hno]
          exact DGet.k (k := Sum.inl (i : Int)) hd2
        refine ⟨_, rfl, _, rfl, d, none, rfl, hg, _, rfl, ifF rfl ?_⟩
        refine ⟨_, rfl, _, rfl, d, none, rfl, hg, _, rfl, ifT rfl ?_⟩
        refine ⟨_, rfl, _, rfl, rl, _, _, _, rfl, rfl, SqL.of (s2 _ _ hrl), atI_nat gq, _, rfl, _, rfl, q, sp, b, r, st, v, cs, rfl, hq2, hs2, hb.same s2, fun H3 s3 => ?_⟩
        have s13 := s2.trans s3
        refine ⟨_, rfl, _, rfl, ?_⟩
        have ewr : walk cs ch.rows 0 0 va [] = walk cs (r :: ch.rows.drop (i + 1)) i st v (cloAll ch.rows shs) := by rw [ew, drop_at hr']
        cases hft : fault cs r st v with
        | some mg' =>
          refine ifT (by simp [optV]) ?_
          have ew' : walk cs ch.rows 0 0 va [] = (some (i, mg'), cloAll ch.rows shs) := by
            rw [ewr]
            unfold walk
            rw [hft]
          exact ⟨_, rfl, _, rfl, _, rfl, (by show 3 ≤ sizeLine; decide), fun t' nt' => ⟨(by show 1 ≤ sizeLine; decide), fun fl nfl => ⟨(by show 0 ≤ sizeLine; decide), fun md nmd => ⟨(by show 2 ≤ sizeLine; decide), fun p np => bad _ i _ _ s13 ew' t' fl md p nt' nfl nmd np⟩⟩⟩⟩
        | none =>
          refine ifF rfl ?_
          obtain ⟨c1, c2, c3⟩ := fault_none hft
          have hd3 := s3 _ _ hd2
          have hr3 := s3 _ _ (upd_same (H := H1) (a := rch) (o := .lst []))
          refine ⟨_, rfl, _, rfl, _, rfl, d, _, rfl, DPut.k (k := Sum.inl (i : Int)) hd3 (Nat.lt_of_le_of_lt (m := 100) (by rw [hsh.1]; omega) (by decide)), ?_⟩
          rw [putK_new _ hno]
          have nd2 : H d = none := nd0
          have s4 : Same H (upd H3 d (.dK (kv ++ [((Sum.inl (i : Int) : Key), V.ref sp)]))) := My.Same.put s13 nd2
          have hr4 : (upd H3 d (.dK (kv ++ [((Sum.inl (i : Int) : Key), V.ref sp)]))) rch = some (.lst []) := by
            rw [upd_ne (Ne.symm ndr)]
            exact hr3
          have hs4 : ShAt K (upd H3 d (.dK (kv ++ [((Sum.inl (i : Int) : Key), V.ref sp)]))) sp st v := (hs2.same s3).upd (.inr (.inl ⟨_, hd3⟩))
          have hsh4 : ShapesAt K (upd H3 d (.dK (kv ++ [((Sum.inl (i : Int) : Key), V.ref sp)]))) (kv ++ [((Sum.inl (i : Int) : Key), V.ref sp)]) (shs ++ [(st, v)]) := by
            rw [ei]
            exact (hsh2.imp fun p st va hh => (hh.same s3).upd (.inr (.inl ⟨_, hd3⟩))).snoc (by rw [← ei]; exact hs4)
          have hlen4 : (shs ++ [(st, v)]).length ≤ ch.rows.length := by
            rw [List.length_append, List.length_singleton]
            omega
          have hcl : cloAll ch.rows (shs ++ [(st, v)]) = cloAll ch.rows shs ++ r.clos v := cloAll_snoc (by rw [← ei]; exact hr')
          refine ⟨_, rfl, .inl ⟨rfl, _, SqL.of hr4⟩, _, rfl, _, rfl, rl, _, _, _, rfl, rfl, SqL.of (s4 _ _ hrl), atI_nat gq, _, rfl, _, rfl, q, sp, i, r, st, v, rfl, same_sqt s4 hq0, hs4, c2, c1, c3, fun hE H5 p s5 hp np => ?_, fun hE H5 p t5 sp5 s5 hp np ht5 hs5 => ?_⟩
          · have hr5 := s5 _ _ hr4
            refine ⟨rch, p, _, _, rfl, rfl, hr5, hp, (by decide), ?_⟩
            refine ⟨0, by omega, _, _, _, 0, 0, 0, shs ++ [(st, v)], _, [], rfl, My.Same.put (s4.trans s5) nrchH, by rw [upd_ne ndr]; exact s5 _ _ upd_same, hsh4.imp fun p st va hh => (hh.same s5).upd (.inl ⟨_, hr5⟩), hlen4, upd_same, .inl ⟨rfl, rfl, ?_⟩⟩
            rw [ewr, hcl]
            unfold walk
            rw [hft]
            show (if r.isEnd = true then _ else _) = _
            rw [if_pos hE]
          · have hr5 := s5 _ _ hr4
            refine ⟨rch, p, _, _, rfl, rfl, hr5, hp, (by show 1 ≤ sizeLine; decide), ?_⟩
            refine ⟨m - 1, by omega, _, _, _, i + 1, _, _, shs ++ [(st, v)], _, [.ref t5], rfl, My.Same.put (s4.trans s5) nrchH, by rw [upd_ne ndr]; exact s5 _ _ upd_same, hsh4.imp fun p st va hh => (hh.same s5).upd (.inl ⟨_, hr5⟩), hlen4, upd_same, .inr ⟨t5, sp5, rfl, sqt_upd ht5 (.inl ⟨_, hr5⟩), hs5.upd (.inl ⟨_, hr5⟩), by rw [List.length_append, List.length_singleton, ei], by omega, ?_⟩⟩
            rw [ewr, hcl]
            show walk cs (r :: _) i st v _ = _
            rw [walk, hft]
            show (if r.isEnd = true then _ else _) = _
            rw [if_neg (by rw [hE]; exact Bool.false_ne_true)]
      · refine ifT (by simp [hrows.len]; omega) ?_
        have hi' : i = ch.rows.length := by omega
        have ew' : walk cs ch.rows 0 0 va [] = (some (i, ("the code ends here" : Str)), cloAll ch.rows shs) := by
          rw [ew, hi', List.drop_length]
          rfl
        exact ⟨_, rfl, _, rfl, (by show 3 ≤ sizeLine; decide), fun t' nt' => ⟨(by show 1 ≤ sizeLine; decide), fun fl nfl => ⟨(by show 0 ≤ sizeLine; decide), fun md nmd => ⟨(by show 2 ≤ sizeLine; decide), fun p np => bad _ i _ _ s2 ew' t' fl md p nt' nfl nmd np⟩⟩⟩⟩
end
end My
namespace My
open PySem L2 SX
open C8 (pss_cut tCut cutS_slice pe_gc)
abbrev Fl := Nat × Nat × Str
def FlAt (H : Hp) : List V → List Fl → Prop
  | [], [] => True
  | v :: vs, c :: cs => (∃ q, v = V.ref q ∧ H q = some (.tup [.int (c.1 : Nat), .int (c.2.1 : Nat), .str c.2.2])) ∧ FlAt H vs cs
  | _, _ => False
theorem FlAt.len {H : Hp} : ∀ {vs : List V} {cs : List Fl}, FlAt H vs cs → vs.length = cs.length
  | [], [], _ => rfl
  | _ :: _, _ :: _, h => by
    have := FlAt.len h.2
    simp [this]
  | [], _ :: _, h => h.elim
  | _ :: _, [], h => h.elim
theorem FlAt.app {H : Hp} {vs' : List V} {cs' : List Fl} (h1 : FlAt H vs' cs') : ∀ {vs : List V} {cs : List Fl}, FlAt H vs cs → FlAt H (vs ++ vs') (cs ++ cs')
  | [], [], _ => h1
  | _ :: _, _ :: _, h => ⟨h.1, FlAt.app h1 h.2⟩
  | [], _ :: _, h => h.elim
  | _ :: _, [], h => h.elim
theorem FlAt.imp {H H' : Hp} (s : ∀ b xs, H b = some (.tup xs) → H' b = some (.tup xs)) : ∀ {vs : List V} {cs : List Fl}, FlAt H vs cs → FlAt H' vs cs
  | [], [], _ => trivial
  | _ :: _, _ :: _, ⟨⟨q, e, h⟩, r⟩ => ⟨⟨q, e, s _ _ h⟩, FlAt.imp s r⟩
  | [], _ :: _, h => h.elim
  | _ :: _, [], h => h.elim
theorem FlAt.get {H : Hp} : ∀ {vs : List V} {cs : List Fl} {i : Nat} {c : Fl}, FlAt H vs cs → cs[i]? = some c → ∃ q, vs[i]? = some (V.ref q) ∧ H q = some (.tup [.int (c.1 : Nat), .int (c.2.1 : Nat), .str c.2.2])
  | [], [], _, _, _, e => by simp at e
  | _ :: _, _ :: _, 0, c, ⟨⟨q, e1, h⟩, _⟩, e => by
    simp at e
    subst e e1
    exact ⟨q, rfl, h⟩
  | _ :: vs, _ :: cs, i + 1, c, h, e => by
    simp at e
    obtain ⟨q, e1, e2⟩ := FlAt.get h.2 e
    exact ⟨q, by simpa using e1, e2⟩
  | [], _ :: _, _, _, h, _ => h.elim
  | _ :: _, [], _, _, h, _ => h.elim
/-- no tuple stands where a list, a dict or nothing stands -/
theorem tup_upd {H : Hp} {p : Addr} {o : HO} (hp : (∃ ys, H p = some (.lst ys)) ∨ (∃ ks, H p = some (.dK ks)) ∨ H p = none) : ∀ b xs, H b = some (.tup xs) → upd H p o b = some (.tup xs) := fun b xs h => by
  rw [upd_ne fun z => by rw [z] at h; rcases hp with ⟨_, e⟩ | ⟨_, e⟩ | e <;> (rw [e] at h; cases h)]
  exact h
/-! ### the queue -/
def queueF (cs : List Ch) : Nat → List (Nat × Nat) → List (Nat × Nat) → List Fl
  | _, [], _ => []
  | 0, _ :: _, _ => []
  | k + 1, x :: rest, begun => match begun.lookup x.1 with
    | some v => (if v = x.2 then [] else [(x.1, 0, ("made in different scopes" : Str))]) ++ queueF cs k rest begun
    | none => match fstC cs x.1 with
      | none => []
      | some ch => match walk cs ch.rows 0 0 x.2 [] with
        | (some (i, m), _) => (x.1, i, m) :: queueF cs k rest (begun ++ [x])
        | (none, cl) => queueF cs k (rest ++ cl) (begun ++ [x])
theorem queueF_nil {cs : List Ch} {k : Nat} {begun : List (Nat × Nat)} : queueF cs k [] begun = [] := by
  cases k <;> rfl
theorem queueF_len {cs : List Ch} : ∀ {k : Nat} {todo begun : List (Nat × Nat)}, (queueF cs k todo begun).length ≤ k
  | k, [], begun => by
    rw [queueF_nil]
    exact Nat.zero_le _
  | 0, _ :: _, _ => Nat.le_refl _
  | k + 1, x :: rest, begun => by
    rw [queueF]
    split
    · split
      · have := queueF_len (cs := cs) (k := k) (todo := rest) (begun := begun)
        simp
        omega
      · have := queueF_len (cs := cs) (k := k) (todo := rest) (begun := begun)
        simp
        omega
    · split
      · exact Nat.zero_le _
      · split
        · have := queueF_len (cs := cs) (k := k) (todo := rest) (begun := begun ++ [x])
          simp
          omega
        · rename_i cl _
          have := queueF_len (cs := cs) (k := k) (todo := rest ++ cl) (begun := begun ++ [x])
          omega
/-- the chunks whose number was not begun -/
def freeN (cs : List Ch) (begun : List (Nat × Nat)) : Nat := (cs.filter fun c => (begun.lookup c.num).isNone).length
theorem look_snoc {n m v : Nat} : ∀ {l : List (Nat × Nat)}, (l ++ [(n, v)]).lookup m = match l.lookup m with | some x => some x | none => if m = n then some v else none
  | [] => by
    by_cases h : m = n
    · subst h
      simp [List.lookup]
    · have h' : (m == n) = false := by simpa using h
      simp [List.lookup, h, h']
  | (a, b) :: l => by
    have ih := look_snoc (n := n) (m := m) (v := v) (l := l)
    by_cases h : m = a
    · subst h
      simp [List.lookup]
    · have h' : (m == a) = false := by simpa using h
      simp only [List.cons_append, List.lookup, h']
      exact ih
theorem free_le {n v : Nat} {begun : List (Nat × Nat)} : ∀ {cs : List Ch}, freeN cs (begun ++ [(n, v)]) ≤ freeN cs begun
  | [] => Nat.le_refl _
  | c :: cs => by
    have ih := free_le (n := n) (v := v) (begun := begun) (cs := cs)
    unfold freeN at ih ⊢
    simp only [List.filter_cons]
    cases e : begun.lookup c.num with
    | some x =>
      rw [show (begun ++ [(n, v)]).lookup c.num = some x by rw [look_snoc, e]]
      simpa using ih
    | none =>
      rw [show (none : Option Nat).isNone = true from rfl, if_pos rfl]
      split
      · simp only [List.length_cons]
        omega
      · simp only [List.length_cons]
        omega
theorem free_lt {n v : Nat} {begun : List (Nat × Nat)} (hn : begun.lookup n = none) : ∀ {cs : List Ch} {ch : Ch}, fstC cs n = some ch → freeN cs (begun ++ [(n, v)]) + 1 ≤ freeN cs begun
  | [], _, h => by cases h
  | c :: cs, ch, h => by
    unfold fstC at h
    rw [List.find?_cons] at h
    unfold freeN
    simp only [List.filter_cons]
    by_cases e : c.num = n
    · rw [show (begun ++ [(n, v)]).lookup c.num = some v by rw [look_snoc, e, hn, if_pos rfl], e, hn]
      have := free_le (n := n) (v := v) (begun := begun) (cs := cs)
      unfold freeN at this
      simp
      omega
    · have e' : (c.num == n) = false := by simpa using e
      rw [e'] at h
      have ih := free_lt (v := v) hn (cs := cs) h
      unfold freeN at ih
      have el : (begun ++ [(n, v)]).lookup c.num = begun.lookup c.num := by
        rw [look_snoc]
        cases begun.lookup c.num with
        | none => simp [e]
        | some x => rfl
      rw [el]
      split
      · simp only [List.length_cons]
        omega
      · omega
theorem walk_len {cs : List Ch} : ∀ {rows : List Row} {i st va : Nat} {cl cl' : List (Nat × Nat)}, walk cs rows i st va cl = (none, cl') → cl'.length ≤ cl.length + rows.length
  | [], _, _, _, _, _, h => by cases h
  | r :: rows, i, st, va, cl, cl', h => by
    rw [walk] at h
    have hc : (r.clos va).length ≤ 1 := by cases r <;> simp [Row.clos]
    split at h
    · cases h
    · split at h
      · cases h
        simp
        omega
      · have := walk_len h
        simp at this ⊢
        omega
theorem walk_some {cs : List Ch} : ∀ {rows : List Row} {i st va : Nat} {cl cl' : List (Nat × Nat)}, walk cs rows i st va cl = (none, cl') → (∀ x ∈ cl, (fstC cs x.1).isSome = true) → ∀ x ∈ cl', (fstC cs x.1).isSome = true
  | [], _, _, _, _, _, h, _ => by cases h
  | r :: rows, i, st, va, cl, cl', h, h0 => by
    rw [walk] at h
    split at h
    · cases h
    · rename_i hft
      have hc : ∀ x ∈ cl ++ r.clos va, (fstC cs x.1).isSome = true := by
        intro x hx
        rcases List.mem_append.mp hx with hx | hx
        · exact h0 x hx
        · cases r with
          | closure f n =>
            simp [Row.clos] at hx
            subst hx
            have hf : cloF cs (.closure f n) = none := by
              unfold fault at hft
              split at hft
              · cases hft
              split at hft
              · cases hft
              split at hft
              · cases hft
              split at hft
              · cases hft
              exact hft
            simp only [cloF] at hf
            split at hf
            · cases hf
            · rename_i e
              rw [e]
              rfl
          | _ => simp [Row.clos] at hx
      split at h
      · cases h
        exact hc
      · exact walk_some h hc
/-- the dict of what was begun -/
def begK (l : List (Nat × Nat)) : List (Key × V) := l.map fun x => ((Sum.inl (x.1 : Int) : Key), V.int x.2)
theorem begK_at {n : Nat} : ∀ {l : List (Nat × Nat)}, valV (begK l) (Sum.inl (n : Int) : Key) = (l.lookup n).map fun v => V.int v
  | [] => rfl
  | (a, b) :: l => by
    by_cases h : n = a
    · subst h
      show valV (_ :: begK l) _ = _
      rw [valV_pos rfl]
      simp [List.lookup]
    · have h' : (n == a) = false := by simpa using h
      show valV (_ :: begK l) _ = _
      rw [valV_neg (fun z => h (by have := Sum.inl.inj z; omega)), begK_at]
      simp only [List.lookup, h']
theorem begK_snoc {l : List (Nat × Nat)} {x : Nat × Nat} : begK (l ++ [x]) = begK l ++ [((Sum.inl (x.1 : Int) : Key), V.int x.2)] := by
  simp [begK]
end My
namespace My
open PySem L2 SX
open C8 (pss_cut tCut cutS_slice pe_gc)
section
variable {P : Program} {w : World} {K : PySem.W.Frag} {mg : Str → Option Value} {base : Heap} {vA cA eA lA bA cC kT kL kE kN kS kM kF kO kC kQ : Addr} {uT uL uE uN uS uM uF uO uC uQ : FuncData}
abbrev sFof : Stmt := top 7
theorem scFof : FnScope ["by_number", "flaws", "checked", "queue", "at", "number", "variables", "flaw", "made"] ["by_number"] (defScope sFof) := ⟨rfl, rfl, rfl, by decide +kernel, rfl, by decide +kernel, by decide +kernel⟩
def spFof (K : PySem.W.Frag) (cC : Addr) : Sp := fun vs H Q _ => ∃ (b : Addr) (cs : List Ch), vs = [.ref b] ∧ BnAt K cC H b cs ∧ (fstC cs 0).isSome = true ∧ 1 + 22 * cs.length ≤ 400 ∧ (∀ ch ∈ cs, ch.rows.length ≤ 22) ∧
  ∀ H' p fs, Same H H' → H p = none → H' p = some (.lst fs) → FlAt H' fs (queueF cs 400 [(0, 0)] []) → Q (.ref p) H'
theorem ok_fof {f : Addr} {fd : FuncData} (F : Fun K "flaws_of_functions" "flaws_of_functions" sFof f fd) (B : Bl mg) (FC : Fun K "check_function" "check_function" sCheck kC uC) (bC : Binds K uC ["by_number", "number", "variables"] []) (gC : mg "check_function" = some (.ref kC))
    (T : Tb K mg w vA cA eA lA bA) (C : Cc K mg cC) (D : Pd K mg kT kL kE kN uT uL uE uN) (E2 : Pc K mg kS kM kF kO uS uM uF uO) : FnOk P w K mg base CX0 5 f fd ["by_number"] (spFof K cC) := by
  have GC : FnOk P w K mg base CX0 4 kC uC ["by_number", "number", "variables"] (spCheck K cC) := ok_check FC B T C D E2
  refine F.ok scFof (fun vs H Q E h => ?_) (fun cdv A outer s H vs Q E hr h => ?_)
  · obtain ⟨b, cs, rfl, _⟩ := h
    rfl
  · obtain ⟨b, cs, rfl, hb, h0, hN, h22, k⟩ := h
    have nd := scFof.nd
    refine ⟨_, pss_cons (ps_set (i := 1) nd rfl (.inl rfl) (pe_lst pa_nil))
      (pss_cons (ps_set (i := 2) nd rfl (.inl rfl) pe_dnewK)
      (pss_cons (ps_set (i := 3) nd rfl (.inl rfl) (pe_lst (pa_cons (pe_tup (pa_cons pe_int (pa_cons pe_int pa_nil))) pa_nil)))
      (pss_cons (ps_set (i := 4) nd rfl (.inl rfl) pe_int)
      (pss_cons (ps_while PassesOwn.never (pt_cmpR op_lt (pv 4) (pe_callB call_len_seq (by rfl) B.len PySem.boot_len (pa_cons (pv 3) pa_nil)) (nomark _))
        (pss_cons (ps_asg (pe_ix ix_list (pv 3) (pv 4) (fun _ _ => rfl)) (pg_tup (by rfl) (pgs_cons (pg_name (i := 5) nd rfl (.inl rfl)) (pgs_cons (pg_name (i := 6) nd rfl (.inl rfl)) pgs_nil))))
        (pss_cons (ps_aug (i := 4) nd rfl (.inl rfl) pe_int ip_add)
        (pss_one (ps_if (pt_cmp (pc_dnotin (hu_of hr) (pv 5) (pv 2)))
          (pss_cons (ps_dput (hu_of hr) (pv 2) (pv 5) (pv 6) (by rfl))
          (pss_cons (ps_asg (pe_call GC hr (by rfl) gC FC.kp bC .nil pass0 (pa_cons (pv 0) (pa_cons (pv 5) (pa_cons (pv 6) pa_nil)))) (pg_tup (by rfl) (pgs_cons (pg_name (i := 7) nd rfl (.inl rfl)) (pgs_cons (pg_name (i := 8) nd rfl (.inl rfl)) pgs_nil))))
          (pss_cons (ps_expr (pe_bm PySem.F.plainAttrs_list PySem.F.slot_list_extend PySem.F.type_list_extend mt_extend (pv 1) (pa_cons (pv 7) pa_nil)))
          (pss_one (ps_expr (pe_bm PySem.F.plainAttrs_list PySem.F.slot_list_extend PySem.F.type_list_extend mt_extend (pv 3) (pa_cons (pv 8) pa_nil)))))))
          (pss_one (ps_if (pt_cmpR op_ne (pe_dget (hu_of hr) (pv 2) (pv 5) (fun _ _ => rfl)) (pv 6) (nomark _)) (pss_one (ps_expr (pe_bm PySem.F.plainAttrs_list PySem.F.slot_list_append PySem.F.type_list_append mt_append (pv 1) (pa_cons (pe_tup (pa_cons (pv 5) (pa_cons pe_int (pa_cons pe_str pa_nil)))) pa_nil)))) pss_nil)))))))
      (pss_one (ps_ret (pv 1))))))), ?_⟩
    refine ⟨Nat.zero_le _, fun fl nfl => fun d nd0 => ⟨(by show 2 ≤ sizeLine; decide), fun t0 nt0 => ⟨(by show 1 ≤ sizeLine; decide), fun ql nql => ?_⟩⟩⟩
    have s1 := same_upd (o := .lst []) nfl
    have s2 := same_upd (o := .dK []) nd0
    have s3 := same_upd (o := .tup [.int 0, .int 0]) nt0
    have s4 := same_upd (o := .lst [.ref t0]) nql
    have nd1 := sNew s1 nd0
    have nq1 := sNew s1 (sNew s2 (sNew s3 nql))
    have nfd : fl ≠ d := fun z => by rw [← z, upd_same] at nd0; cases nd0
    have nfq : fl ≠ ql := fun z => by rw [← z, s3 _ _ (s2 _ _ upd_same)] at nql; cases nql
    have ndq : d ≠ ql := fun z => by rw [← z, s3 _ _ upd_same] at nql; cases nql
    let W : Nat → St → Hp → Prop := fun m σ H' => ∃ (x1 x2 x3 x4 : Option V) (at' : Nat) (done todo begun : List (Nat × Nat)) (fs qs : List V) (out : List Fl),
      σ = [some (.ref b), some (.ref fl), some (.ref d), some (.ref ql), some (.int at'), x1, x2, x3, x4] ∧ Same H H' ∧ H' fl = some (.lst fs) ∧ FlAt H' fs out ∧ H' d = some (.dK (begK begun)) ∧ H' ql = some (.lst qs) ∧ PairsAt H' qs (done ++ todo) ∧ at' = done.length ∧
      out.length ≤ at' ∧ begun.length ≤ at' ∧ at' + m = 400 ∧ todo.length + 22 * freeN cs begun ≤ m ∧ (∀ x ∈ todo, (fstC cs x.1).isSome = true) ∧ queueF cs 400 [(0, 0)] [] = out ++ queueF cs m todo begun
    refine ⟨W, ⟨400, none, none, none, none, 0, [], [(0, 0)], [], [], [.ref t0], [], rfl, s1.trans (s2.trans (s3.trans s4)), s4 _ _ (s3 _ _ (s2 _ _ upd_same)), trivial, s4 _ _ (s3 _ _ upd_same), upd_same, ⟨⟨t0, rfl, s4 _ _ upd_same⟩, trivial⟩, rfl, Nat.le_refl _, Nat.le_refl _, rfl, ?_, ?_, rfl⟩, ?_⟩
    · have : freeN cs [] ≤ cs.length := List.length_filter_le _ _
      show 1 + _ ≤ 400
      omega
    · intro x hx
      rw [List.mem_singleton] at hx
      subst hx
      exact h0
    rintro m σ H1 ⟨x1, x2, x3, x4, at', done, todo, begun, fs, qs, out, rfl, sH, hfl, hfs, hd, hql, hqs, ea, hol, hbl, hm, hpot, hso, ew⟩
    have hql' : qs.length = done.length + todo.length := by rw [hqs.len, List.length_append]
    refine ⟨_, rfl, _, rfl, ql, _, rfl, .inl (SqL.of hql), _, _, rfl, rfl, _, rfl, ?_⟩
    cases todo with
    | nil =>
      refine ifF (by simp only [List.length_nil] at hql'; simp; omega) ⟨_, rfl, k _ fl fs sH nfl hfl ?_⟩
      rw [ew, queueF_nil, List.append_nil]
      exact hfs
    | cons x rest =>
      simp only [List.length_cons] at hql' hpot
      obtain ⟨m', rfl⟩ : ∃ m', m = m' + 1 := ⟨m - 1, by omega⟩
      refine ifT (by simp; omega) ⟨_, fun σ' H' h => h, ?_⟩
      obtain ⟨q, hq1, hq2⟩ := hqs.get (i := at') (c := x) (by rw [ea, List.getElem?_append_right (Nat.le_refl _), Nat.sub_self]; rfl)
      refine ⟨_, rfl, _, rfl, ql, _, _, _, rfl, rfl, SqL.of hql, atI_nat hq1, q, _, rfl, .inl (.inl hq2), rfl, _, _, rfl, _, _, rfl, rfl, ?_⟩
      refine ⟨_, rfl, _, _, rfl, rfl, ?_⟩
      have hsr : ∀ y ∈ rest, (fstC cs y.1).isSome = true := fun y hy => hso y (List.mem_cons_of_mem _ hy)
      have hsplit : done ++ x :: rest = (done ++ [x]) ++ rest := by simp
      have hd1l : (done ++ [x]).length = at' + 1 := by rw [List.length_append, List.length_singleton, ea]
      have hv0 : valV (begK begun) (Sum.inl (x.1 : Int) : Key) = (begun.lookup x.1).map fun v => V.int v := begK_at
      cases hl : begun.lookup x.1 with
      | none =>
        rw [hl] at hv0
        have hg : DGet H1 d (.int x.1) none := by
          have hv1 : valV (begK begun) (Sum.inl (x.1 : Int) : Key) = none := hv0
          rw [← hv1]
          exact DGet.k (k := Sum.inl (x.1 : Int)) hd
        refine ⟨_, rfl, _, rfl, d, none, rfl, hg, _, rfl, ifT rfl ?_⟩
        refine ⟨_, rfl, _, rfl, _, rfl, d, _, rfl, DPut.k (k := Sum.inl (x.1 : Int)) hd (Nat.lt_of_le_of_lt (m := 400) (by rw [begK, List.length_map]; omega) (by decide)), ?_⟩
        rw [putK_new _ hv0, ← begK_snoc]
        have hx := hso x (List.mem_cons_self ..)
        obtain ⟨ch, hch⟩ : ∃ ch, fstC cs x.1 = some ch := Option.isSome_iff_exists.mp hx
        have hc22 : ch.rows.length ≤ 22 := h22 ch (List.mem_of_find?_eq_some hch)
        have sH2 : Same H (upd H1 d (.dK (begK (begun ++ [x])))) := My.Same.put sH nd1
        have fl2 : (upd H1 d (.dK (begK (begun ++ [x])))) fl = some (.lst fs) := by rw [upd_ne nfd]; exact hfl
        have ql2 : (upd H1 d (.dK (begK (begun ++ [x])))) ql = some (.lst qs) := by rw [upd_ne (Ne.symm ndq)]; exact hql
        have tu2 := tup_upd (o := .dK (begK (begun ++ [x]))) (.inr (.inl ⟨_, hd⟩))
        refine ⟨_, rfl, _, rfl, _, rfl, b, x.1, x.2, cs, ch, rfl, hb.same sH2, hch, by omega, fun H3 p fl1 md1 s3 hp n1 n2 hC => ⟨p, _, rfl, .inl (.inl hp), rfl, _, _, rfl, _, _, rfl, rfl, ?_⟩⟩
        have fl3 := s3 _ _ fl2
        have ql3 := s3 _ _ ql2
        have d3 := s3 _ _ (upd_same (H := H1) (a := d) (o := .dK (begK (begun ++ [x]))))
        have nf1 : fl1 ≠ fl := fun z => by rw [z, fl2] at n1; cases n1
        have nm1 : md1 ≠ fl := fun z => by rw [z, fl2] at n2; cases n2
        have nm2 : md1 ≠ ql := fun z => by rw [z, ql2] at n2; cases n2
        have sH3 := sH2.trans s3
        have fs3 : FlAt H3 fs out := hfs.imp fun b xs e => s3 _ _ (tu2 _ _ e)
        have qs3 : PairsAt H3 qs (done ++ x :: rest) := hqs.imp fun b xs e => s3 _ _ (tu2 _ _ e)
        have hfree := free_lt (v := x.2) hl hch
        rw [show ((x.1, x.2) : Nat × Nat) = x from rfl] at hfree
        have hfl0 := hfs.len
        cases hw : walk cs ch.rows 0 0 x.2 [] with
        | mk o cl =>
        rw [hw] at hC
        cases o with
        | some im =>
          obtain ⟨i, mg'⟩ := im
          obtain ⟨⟨t, e1, e2⟩, e3⟩ := hC
          refine ⟨_, rfl, .inl ⟨rfl, _, SqL.of fl3⟩, _, rfl, fl, fl1, _, _, rfl, rfl, fl3, e1, Nat.le_trans (m := 401) (by rw [List.length_singleton]; omega) (by decide), ?_⟩
          have ql4 : (upd H3 fl (.lst (fs ++ [.ref t]))) ql = some (.lst qs) := by rw [upd_ne (Ne.symm nfq)]; exact ql3
          have e4 : (upd H3 fl (.lst (fs ++ [.ref t]))) md1 = some (.lst []) := by rw [upd_ne nm1]; exact e3
          have tu4 := tup_upd (o := .lst (fs ++ [.ref t])) (.inl ⟨_, fl3⟩)
          refine ⟨_, rfl, .inl ⟨rfl, _, SqL.of ql4⟩, _, rfl, ql, md1, _, _, rfl, rfl, ql4, e4, Nat.le_trans (m := 401) (by rw [List.length_nil]; omega) (by decide), ?_⟩
          rw [List.append_nil]
          have tu5 := tup_upd (o := .lst qs) (.inl ⟨_, ql4⟩)
          refine ⟨m', by omega, _, _, _, _, at' + 1, done ++ [x], rest, begun ++ [x], fs ++ [.ref t], qs, out ++ [(x.1, i, mg')], rfl, My.Same.put (My.Same.put sH3 nfl) nq1, ?_, ?_, ?_, upd_same, ?_, hd1l.symm, ?_, ?_, by omega, by omega, hsr, ?_⟩
          · rw [upd_ne nfq]
            exact upd_same
          · refine FlAt.app (vs' := [.ref t]) (cs' := [(x.1, i, mg')]) ⟨⟨t, rfl, tu5 _ _ (tu4 _ _ e2)⟩, trivial⟩ (fs3.imp fun b xs e => tu5 _ _ (tu4 _ _ e))
          · rw [upd_ne ndq, upd_ne (Ne.symm nfd)]
            exact d3
          · rw [← hsplit]
            exact qs3.imp fun b xs e => tu5 _ _ (tu4 _ _ e)
          · rw [List.length_append, List.length_singleton]
            omega
          · rw [List.length_append, List.length_singleton]
            omega
          · rw [ew]
            simp only [queueF, hl, hch, hw, List.append_assoc, List.singleton_append]
        | none =>
          obtain ⟨e1, ts, e2, e3⟩ := hC
          have hcl := walk_len hw
          have hcs := walk_some hw (by simp)
          rw [List.length_nil] at hcl
          have hts := e3.len
          refine ⟨_, rfl, .inl ⟨rfl, _, SqL.of fl3⟩, _, rfl, fl, fl1, _, _, rfl, rfl, fl3, e1, Nat.le_trans (m := 401) (by rw [List.length_nil]; omega) (by decide), ?_⟩
          rw [List.append_nil]
          have ql4 : (upd H3 fl (.lst fs)) ql = some (.lst qs) := by rw [upd_ne (Ne.symm nfq)]; exact ql3
          have e4 : (upd H3 fl (.lst fs)) md1 = some (.lst ts) := by rw [upd_ne nm1]; exact e2
          have tu4 := tup_upd (o := .lst fs) (.inl ⟨_, fl3⟩)
          refine ⟨_, rfl, .inl ⟨rfl, _, SqL.of ql4⟩, _, rfl, ql, md1, _, _, rfl, rfl, ql4, e4, Nat.le_trans (m := 1000) (by omega) (by decide), ?_⟩
          have tu5 := tup_upd (o := .lst (qs ++ ts)) (.inl ⟨_, ql4⟩)
          refine ⟨m', by omega, _, _, _, _, at' + 1, done ++ [x], rest ++ cl, begun ++ [x], fs, qs ++ ts, out, rfl, My.Same.put (My.Same.put sH3 nfl) nq1, ?_, ?_, ?_, upd_same, ?_, hd1l.symm, by omega, ?_, by omega, ?_, ?_, ?_⟩
          · rw [upd_ne nfq]
            exact upd_same
          · exact fs3.imp fun b xs e => tu5 _ _ (tu4 _ _ e)
          · rw [upd_ne ndq, upd_ne (Ne.symm nfd)]
            exact d3
          · rw [← List.append_assoc, ← hsplit]
            exact PairsAt.app (e3.imp fun b xs e => tu5 _ _ (tu4 _ _ e)) (qs3.imp fun b xs e => tu5 _ _ (tu4 _ _ e))
          · rw [List.length_append, List.length_singleton]
            omega
          · rw [List.length_append]
            omega
          · intro y hy
            rcases List.mem_append.mp hy with hy | hy
            · exact hsr y hy
            · exact hcs y hy
          · rw [ew]
            simp only [queueF, hl, hch, hw]
      | some v =>
        rw [hl] at hv0
        have hg : DGet H1 d (.int x.1) (some (.int v)) := by
          have hv1 : valV (begK begun) (Sum.inl (x.1 : Int) : Key) = some (.int v) := hv0
          rw [← hv1]
          exact DGet.k (k := Sum.inl (x.1 : Int)) hd
        refine ⟨_, rfl, _, rfl, d, some (.int v), rfl, hg, _, rfl, ifF rfl ?_⟩
        refine ⟨_, rfl, _, rfl, d, .int v, rfl, hg, _, rfl, rfl, _, rfl, ?_⟩
        by_cases hvx : v = x.2
        · refine ifF (by simp [hvx]) ⟨m', by omega, _, _, _, _, at' + 1, done ++ [x], rest, begun, fs, qs, out, rfl, sH, hfl, hfs, hd, hql, by rw [← hsplit]; exact hqs, hd1l.symm, by omega, by omega, by omega, by omega, hsr, ?_⟩
          rw [ew]
          simp only [queueF, hl, if_pos hvx, List.nil_append]
        · refine ifT (by simp; omega) ⟨_, rfl, .inl ⟨rfl, _, SqL.of hfl⟩, _, rfl, (by show 3 ≤ sizeLine; decide), fun t nt => ?_⟩
          have u1 := same_upd (o := .tup [.int x.1, .int 0, .str "made in different scopes"]) nt
          have hf0 := hfs.len
          refine ⟨fl, _, _, rfl, rfl, u1 _ _ hfl, Nat.lt_of_le_of_lt (m := 401) (by omega) (by decide), ?_⟩
          have tu4 := tup_upd (o := .lst (fs ++ [.ref t])) (.inl ⟨_, u1 _ _ hfl⟩)
          refine ⟨m', by omega, _, _, _, _, at' + 1, done ++ [x], rest, begun, fs ++ [.ref t], qs, out ++ [(x.1, 0, ("made in different scopes" : Str))], rfl, My.Same.put (sH.trans u1) nfl, upd_same, ?_, ?_, ?_, ?_, hd1l.symm, ?_, by omega, by omega, by omega, hsr, ?_⟩
          · exact FlAt.app (vs' := [.ref t]) (cs' := [(x.1, 0, ("made in different scopes" : Str))]) ⟨⟨t, rfl, tu4 _ _ upd_same⟩, trivial⟩ (hfs.imp fun b xs e => tu4 _ _ (u1 _ _ e))
          · rw [upd_ne (Ne.symm nfd)]
            exact u1 _ _ hd
          · rw [upd_ne (Ne.symm nfq)]
            exact u1 _ _ hql
          · rw [← hsplit]
            exact hqs.imp fun b xs e => tu4 _ _ (u1 _ _ e)
          · rw [List.length_append, List.length_singleton]
            omega
          · rw [ew]
            simp only [queueF, hl, if_neg hvx, List.append_assoc]
end
end My
namespace My
open PySem L2 SX
open C8 (pss_cut tCut cutS_slice pe_gc)
def dups : List Ch → List Ch → List Fl
  | _, [] => []
  | seen, c :: cs => (if (fstC seen c.num).isSome = true then [(c.num, 0, ("two functions have this number" : Str))] else []) ++ dups (seen ++ [c]) cs
def lastF (cs : List Ch) : List Fl := match fstC cs 0 with
  | none => [(0, 0, ("no such function" : Str))]
  | some c => if c.want = 0 then queueF cs 400 [(0, 0)] [] else [(0, 0, ("another number of parameters" : Str))]
def dueF (cs : List Ch) : List Fl := dups [] cs ++ lastF cs
theorem fst_snoc {cs : List Ch} {c : Ch} {n : Nat} : fstC (cs ++ [c]) n = match fstC cs n with | some x => some x | none => if c.num = n then some c else none := by
  unfold fstC
  rw [List.find?_append]
  cases cs.find? (fun c => c.num == n) with
  | some x => rfl
  | none =>
    by_cases h : c.num = n
    · simp [h]
    · simp [h]
def ChsAt (K : PySem.W.Frag) (cC : Addr) (H : Hp) (as : List Addr) (cs : List Ch) : Prop := as.length = cs.length ∧ ∀ (i : Nat) (c : Ch), cs[i]? = some c → ∃ a, as[i]? = some a ∧ ChAt K cC H a c
theorem ChsAt.imp {K : PySem.W.Frag} {cC : Addr} {H H' : Hp} {as : List Addr} {cs : List Ch} (s : ∀ a c, ChAt K cC H a c → ChAt K cC H' a c) (h : ChsAt K cC H as cs) : ChsAt K cC H' as cs :=
  ⟨h.1, fun i c e => let ⟨a, e1, e2⟩ := h.2 i c e; ⟨a, e1, s _ _ e2⟩⟩
theorem ChsAt.get2 {K : PySem.W.Frag} {cC : Addr} {H : Hp} {as : List Addr} {cs : List Ch} {i : Nat} {v : V} (h : ChsAt K cC H as cs) (e : (as.map V.ref)[i]? = some v) : ∃ a c, v = .ref a ∧ cs[i]? = some c ∧ ChAt K cC H a c := by
  have hi : i < cs.length := by
    have := (List.getElem?_eq_some_iff.mp e).1
    rw [List.length_map, h.1] at this
    exact this
  obtain ⟨a, e1, e2⟩ := h.2 i _ (List.getElem?_eq_getElem hi)
  rw [List.getElem?_map, e1] at e
  cases e
  exact ⟨a, _, rfl, List.getElem?_eq_getElem hi, e2⟩
theorem ChsAt.snoc {K : PySem.W.Frag} {cC : Addr} {H : Hp} {as : List Addr} {cs : List Ch} {a : Addr} {c : Ch} (h : ChsAt K cC H as cs) (hc : ChAt K cC H a c) : ChsAt K cC H (as ++ [a]) (cs ++ [c]) := by
  refine ⟨by simp [h.1], fun i x e => ?_⟩
  by_cases hi : i < cs.length
  · rw [List.getElem?_append_left hi] at e
    obtain ⟨b, e1, e2⟩ := h.2 i x e
    exact ⟨b, by rw [List.getElem?_append_left (by rw [h.1]; exact hi)]; exact e1, e2⟩
  · have hl : i < cs.length + 1 := by
      have := (List.getElem?_eq_some_iff.mp e).1
      simpa using this
    obtain rfl : i = cs.length := by omega
    rw [List.getElem?_concat_length] at e
    cases e
    exact ⟨a, by rw [← h.1, List.getElem?_concat_length], hc⟩
theorem take_snoc {α : Type} {l : List α} {i : Nat} {x : α} (h : l[i]? = some x) : l.take (i + 1) = l.take i ++ [x] := by
  rw [List.take_succ, h]
  rfl
theorem drop_cons {α : Type} {l : List α} {i : Nat} {x : α} (h : l[i]? = some x) : l.drop i = x :: l.drop (i + 1) := by
  have hi := (List.getElem?_eq_some_iff.mp h).1
  have := (List.getElem?_eq_some_iff.mp h).2
  rw [List.drop_eq_getElem_cons hi, this]
section
variable {P : Program} {w : World} {K : PySem.W.Frag} {mg : Str → Option Value} {base : Heap} {vA cA eA lA bA cC kT kL kE kN kS kM kF kO kC kQ : Addr} {uT uL uE uN uS uM uF uO uC uQ : FuncData}
abbrev sFlaws : Stmt := top 6
theorem scFlaws : FnScope ["chunks", "by_number", "flaws", "chunk"] ["chunks"] (defScope sFlaws) := ⟨rfl, rfl, rfl, by decide +kernel, rfl, by decide +kernel, by decide +kernel⟩
def spFlaws (K : PySem.W.Frag) (cC : Addr) : Sp := fun vs H Q _ => ∃ (c : Addr) (as : List Addr) (cs : List Ch), vs = [.ref c] ∧ H c = some (.lst (as.map V.ref)) ∧ ChsAt K cC H as cs ∧ cs.length ≤ 18 ∧ (∀ ch ∈ cs, ch.rows.length ≤ 22) ∧
  ∀ H' p fs, Same H H' → H p = none → H' p = some (.lst fs) → FlAt H' fs (dueF cs) → Q (.ref p) H'
theorem ok_flaws {f : Addr} {fd : FuncData} (F : Fun K "flaws_of" "flaws_of" sFlaws f fd) (B : Bl mg) (FC : Fun K "check_function" "check_function" sCheck kC uC) (bC : Binds K uC ["by_number", "number", "variables"] []) (gC : mg "check_function" = some (.ref kC))
    (FQ : Fun K "flaws_of_functions" "flaws_of_functions" sFof kQ uQ) (bQ : Binds K uQ ["by_number"] []) (gQ : mg "flaws_of_functions" = some (.ref kQ))
    (T : Tb K mg w vA cA eA lA bA) (C : Cc K mg cC) (D : Pd K mg kT kL kE kN uT uL uE uN) (E2 : Pc K mg kS kM kF kO uS uM uF uO) : FnOk P w K mg base CX0 6 f fd ["chunks"] (spFlaws K cC) := by
  have GQ : FnOk P w K mg base CX0 5 kQ uQ ["by_number"] (spFof K cC) := ok_fof FQ B FC bC gC T C D E2
  refine F.ok scFlaws (fun vs H Q E h => ?_) (fun cdv A outer s H vs Q E hr h => ?_)
  · obtain ⟨c, as, cs, rfl, _⟩ := h
    rfl
  · obtain ⟨c, as, cs, rfl, hc, has, hN, h22, k⟩ := h
    have nd := scFlaws.nd
    refine ⟨_, pss_cons (ps_set (i := 1) nd rfl (.inl rfl) pe_dnewK)
      (pss_cons (ps_set (i := 2) nd rfl (.inl rfl) (pe_lst pa_nil))
      (pss_cons (ps_for PassesOwn.never rfl (pi_list (pv 0)) (pg_name (i := 3) nd rfl (.inl rfl))
        (pss_one (ps_if (pt_cmp (pc_din (hu_of hr) (pe_fld (pv 3) rfl) (pv 1)))
          (pss_one (ps_expr (pe_bm PySem.F.plainAttrs_list PySem.F.slot_list_append PySem.F.type_list_append mt_append (pv 2) (pa_cons (pe_tup (pa_cons (pe_fld (pv 3) rfl) (pa_cons pe_int (pa_cons pe_str pa_nil)))) pa_nil))))
          (pss_one (ps_dput (hu_of hr) (pv 1) (pe_fld (pv 3) rfl) (pv 3) (by rfl))))))
      (pss_cons (ps_if (pt_cmp (pc_dnotin (hu_of hr) pe_int (pv 1)))
        (pss_one (ps_expr (pe_bm PySem.F.plainAttrs_list PySem.F.slot_list_append PySem.F.type_list_append mt_append (pv 2) (pa_cons (pe_tup (pa_cons pe_int (pa_cons pe_int (pa_cons pe_str pa_nil)))) pa_nil))))
        (pss_one (ps_if (pt_cmpR op_ne (pe_fld (pe_dget (hu_of hr) (pv 1) pe_int (fun _ _ => rfl)) rfl) pe_int (nomark _))
          (pss_one (ps_expr (pe_bm PySem.F.plainAttrs_list PySem.F.slot_list_append PySem.F.type_list_append mt_append (pv 2) (pa_cons (pe_tup (pa_cons pe_int (pa_cons pe_int (pa_cons pe_str pa_nil)))) pa_nil))))
          (pss_one (ps_expr (pe_bm PySem.F.plainAttrs_list PySem.F.slot_list_extend PySem.F.type_list_extend mt_extend (pv 2) (pa_cons (pe_call GQ hr (by rfl) gQ FQ.kp bQ .nil pass0 (pa_cons (pv 1) pa_nil)) pa_nil)))))))
      (pss_one (ps_ret (pv 2)))))), ?_⟩
    refine fun d nd0 => ⟨Nat.zero_le _, fun fl nfl => ?_⟩
    have s1 := same_upd (o := .dK []) nd0
    have s2 := same_upd (o := .lst []) nfl
    have nfl1 := sNew s1 nfl
    have nfd : fl ≠ d := fun z => by rw [z, upd_same] at nfl; cases nfl
    refine ⟨_, rfl, c, rfl, ⟨_, SqL.of ((s1.trans s2) _ _ hc)⟩, for_list (K := K) (a := c) (xs := as.map V.ref) (fun i σ H' => ∃ (y : Option V) (fs : List V) (kvs : List (Key × V)) (out : List Fl), σ = [some (.ref c), some (.ref d), some (.ref fl), y] ∧ Same H H' ∧ H' d = some (.dK kvs) ∧ kvs.length ≤ i ∧
      (∀ n : Nat, match fstC (cs.take i) n with | none => valV kvs (.inl (n : Int)) = none | some ch => ∃ a, valV kvs (.inl (n : Int)) = some (.ref a) ∧ ChAt K cC H a ch) ∧
      H' fl = some (.lst fs) ∧ FlAt H' fs out ∧ out.length ≤ i ∧ dups [] cs = out ++ dups (cs.take i) (cs.drop i))
      ⟨none, [], [], [], rfl, s1.trans s2, s2 _ _ upd_same, Nat.le_refl _, fun n => rfl, upd_same, trivial, Nat.le_refl _, rfl⟩ (fun i σ H' _ ⟨_, _, _, _, _, s, _⟩ => SqL.of (s _ _ hc)) ?_ ?_⟩
    · rintro i v σ H1 hi ⟨y, fs, kvs, out, rfl, sH, hd, hkl, hkv, hfl, hfs, hol, ed⟩
      obtain ⟨a, ch, rfl, hci, hca⟩ := has.get2 hi
      have hil : i < cs.length := (List.getElem?_eq_some_iff.mp hci).1
      have ed' : dups (cs.take i) (cs.drop i) = (if (fstC (cs.take i) ch.num).isSome = true then [(ch.num, 0, ("two functions have this number" : Str))] else []) ++ dups (cs.take (i + 1)) (cs.drop (i + 1)) := by
        rw [drop_cons hci, take_snoc hci]
        rfl
      obtain ⟨dx, rl, sl, qs, h1, h2, h3⟩ := id hca
      have h1' := sH _ _ h1
      have hn := hkv ch.num
      refine ⟨_, rfl, a, cC, dx, _, _, rfl, h1', C.cl, C.n1, ch_num _ _ _, _, rfl, d, _, rfl, DGet.k (k := Sum.inl (ch.num : Int)) hd, _, rfl, ?_⟩
      cases hf : fstC (cs.take i) ch.num with
      | some c0 =>
        rw [hf] at hn
        obtain ⟨a0, e0, _⟩ := hn
        refine ifT (by rw [e0]; rfl) ?_
        refine ⟨_, rfl, .inl ⟨rfl, _, SqL.of hfl⟩, _, rfl, a, cC, dx, _, _, rfl, h1', C.cl, C.n1, ch_num _ _ _, (by show 3 ≤ sizeLine; decide), fun t nt => ?_⟩
        have u1 := same_upd (o := .tup [.int ch.num, .int 0, .str "two functions have this number"]) nt
        have hf0 := hfs.len
        refine ⟨fl, _, _, rfl, rfl, u1 _ _ hfl, Nat.lt_of_le_of_lt (m := 401) (by omega) (by decide), ?_⟩
        have tu4 := tup_upd (o := .lst (fs ++ [.ref t])) (.inl ⟨_, u1 _ _ hfl⟩)
        refine ⟨_, fs ++ [.ref t], kvs, out ++ [(ch.num, 0, ("two functions have this number" : Str))], rfl, My.Same.put (sH.trans u1) nfl1, ?_, by omega, ?_, upd_same, ?_, ?_, ?_⟩
        · rw [upd_ne (Ne.symm nfd)]
          exact u1 _ _ hd
        · intro n
          have hm := hkv n
          rw [take_snoc hci, fst_snoc]
          cases hf2 : fstC (cs.take i) n with
          | some c2 =>
            rw [hf2] at hm
            exact hm
          | none =>
            rw [hf2] at hm
            have hne : ¬ ch.num = n := fun z => by rw [z, hf2] at hf; cases hf
            simp only [if_neg hne]
            exact hm
        · exact FlAt.app (vs' := [.ref t]) (cs' := [(ch.num, 0, ("two functions have this number" : Str))]) ⟨⟨t, rfl, tu4 _ _ upd_same⟩, trivial⟩ (hfs.imp fun b xs e => tu4 _ _ (u1 _ _ e))
        · rw [List.length_append, List.length_singleton]
          omega
        · rw [ed, ed', hf]
          simp
      | none =>
        rw [hf] at hn
        refine ifF (by rw [hn]; rfl) ?_
        refine ⟨_, rfl, _, rfl, _, rfl, a, cC, dx, _, _, rfl, h1', C.cl, C.n1, ch_num _ _ _, d, _, rfl, DPut.k (k := Sum.inl (ch.num : Int)) hd (Nat.lt_of_le_of_lt (m := 401) (by omega) (by decide)), ?_⟩
        rw [putK_new _ hn]
        have tu4 := tup_upd (o := .dK (kvs ++ [((Sum.inl (ch.num : Int) : Key), V.ref a)])) (.inr (.inl ⟨_, hd⟩))
        refine ⟨_, fs, _, out, rfl, My.Same.put sH nd0, upd_same, by rw [List.length_append, List.length_singleton]; omega, ?_, ?_, hfs.imp fun b xs e => tu4 _ _ e, by omega, ?_⟩
        · intro n
          have hm := hkv n
          rw [take_snoc hci, fst_snoc]
          cases hf2 : fstC (cs.take i) n with
          | some c2 =>
            rw [hf2] at hm
            obtain ⟨a2, e2, e3⟩ := hm
            have hne : ¬ n = ch.num := fun z => by rw [z, hf] at hf2; cases hf2
            refine ⟨a2, ?_, e3⟩
            rw [valV_snoc _ _ _ _ hn, if_neg (fun z => hne (by have := Sum.inl.inj z; omega))]
            exact e2
          | none =>
            rw [hf2] at hm
            by_cases hne : ch.num = n
            · subst hne
              simp only [if_pos rfl]
              exact ⟨a, by rw [valV_snoc _ _ _ _ hn, if_pos rfl], hca⟩
            · simp only [if_neg hne]
              rw [valV_snoc _ _ _ _ hn, if_neg (fun z => hne (by have := Sum.inl.inj z; omega))]
              exact hm
        · rw [upd_ne nfd]
          exact hfl
        · rw [ed, ed', hf]
          simp
    · rintro σ H1 ⟨y, fs, kvs, out, rfl, sH, hd, hkl, hkv, hfl, hfs, hol, ed⟩
      rw [List.length_map, has.1] at hkl hkv ed hol
      rw [List.take_length] at hkv
      have ed' : dups [] cs = out := by
        rw [ed, List.drop_length, List.take_length]
        simp [dups]
      have hB : BnAt K cC H1 d cs := ⟨kvs, hd, by omega, fun n => by
        have hm := hkv n
        cases hf2 : fstC cs n with
        | none => rw [hf2] at hm; exact hm
        | some c2 =>
          rw [hf2] at hm
          obtain ⟨a, e1, e2⟩ := hm
          exact ⟨a, e1, e2.same sH⟩⟩
      have hz := hkv 0
      have app : ∀ (m : Str), lastF cs = [(0, 0, m)] → ∀ t, H1 t = none → ∃ l xs y, V.ref fl = .ref l ∧ [V.ref t] = [y] ∧ (upd H1 t (.tup [.int 0, .int 0, .str m])) l = some (.lst xs) ∧ xs.length < sizeLine ∧ (∃ v, some (some (V.ref fl)) = some (some v) ∧ Q v (upd (upd H1 t (.tup [.int 0, .int 0, .str m])) l (.lst (xs ++ [y])))) := by
        intro m em t nt
        have u1 := same_upd (o := .tup [.int 0, .int 0, .str m]) nt
        have hf0 := hfs.len
        refine ⟨fl, _, _, rfl, rfl, u1 _ _ hfl, Nat.lt_of_le_of_lt (m := 401) (by omega) (by decide), _, rfl, ?_⟩
        have tu4 := tup_upd (o := .lst (fs ++ [.ref t])) (.inl ⟨_, u1 _ _ hfl⟩)
        refine k _ fl _ (My.Same.put (sH.trans u1) nfl1) nfl1 upd_same ?_
        unfold dueF
        rw [ed', em]
        exact FlAt.app (vs' := [.ref t]) (cs' := [(0, 0, m)]) ⟨⟨t, rfl, tu4 _ _ upd_same⟩, trivial⟩ (hfs.imp fun b xs e => tu4 _ _ (u1 _ _ e))
      refine ⟨_, rfl, d, _, rfl, DGet.k (k := Sum.inl ((0 : Nat) : Int)) hd, _, rfl, ?_⟩
      cases hf : fstC cs 0 with
      | none =>
        rw [hf] at hz
        refine ifT (by rw [hz]; rfl) ?_
        refine ⟨_, rfl, .inl ⟨rfl, _, SqL.of hfl⟩, (by show 3 ≤ sizeLine; decide), fun t nt => app "no such function" (by unfold lastF; rw [hf]) t nt⟩
      | some c0 =>
        rw [hf] at hz
        obtain ⟨a0, e0, dx, rl, sl, qs, h1, h2, h3⟩ := hz
        refine ifF (by rw [e0]; rfl) ?_
        refine ⟨_, rfl, d, _, rfl, (by rw [← e0]; exact DGet.k (k := Sum.inl ((0 : Nat) : Int)) hd), a0, cC, dx, _, _, rfl, sH _ _ h1, C.cl, C.n2, ch_want _ _ _, rfl, _, rfl, ?_⟩
        by_cases hw : c0.want = 0
        · refine ifF (by simp [hw]) ?_
          refine ⟨_, rfl, .inl ⟨rfl, _, SqL.of hfl⟩, _, rfl, d, cs, rfl, hB, by rw [hf]; rfl, by omega, h22, fun H2 p fs2 s2 np hp hfs2 => ?_⟩
          have hf0 := hfs.len
          have hf2 := hfs2.len
          have hql : (queueF cs 400 [(0, 0)] []).length ≤ 400 := queueF_len
          refine ⟨fl, p, _, _, rfl, rfl, s2 _ _ hfl, hp, Nat.le_trans (m := 1000) (by omega) (by decide), _, rfl, ?_⟩
          have tu4 := tup_upd (o := .lst (fs ++ fs2)) (.inl ⟨_, s2 _ _ hfl⟩)
          refine k _ fl _ (My.Same.put (sH.trans s2) nfl1) nfl1 upd_same ?_
          unfold dueF lastF
          rw [ed', hf]
          simp only [if_pos hw]
          exact FlAt.app (hfs2.imp fun b xs e => tu4 _ _ e) (hfs.imp fun b xs e => tu4 _ _ (s2 _ _ e))
        · refine ifT (by simp; omega) ?_
          refine ⟨_, rfl, .inl ⟨rfl, _, SqL.of hfl⟩, (by show 3 ≤ sizeLine; decide), fun t nt => app "another number of parameters" (by unfold lastF; rw [hf]; simp only [if_neg hw]) t nt⟩
end
end My
namespace My
open PySem L2 SX
open C8 (pss_cut tCut cutS_slice pe_gc)
variable {P : Program} {w : World} {K : PySem.W.Frag} {mg : Str → Option Value} {base : Heap}
def StL (K : PySem.W.Frag) (H : Hp) (a p : Addr) (ns : List Int) : Prop := ∃ x k : Int, H p = some (.lst [.int x, .int k, .ref a]) ∧ 0 ≤ k ∧ SqL K H a (ns.map V.int)
theorem sql_keep {H H' : Hp} {a p : Addr} {x k : Int} {ns : List Int} (hk : Keep p H H') (hp : H p = some (.lst [.int x, .int k, .ref a])) (h : SqL K H a (ns.map V.int)) : SqL K H' a (ns.map V.int) := by
  rcases h with (h | ⟨ob, h⟩) | h
  · refine .inl (.inl (hk _ _ h fun z => ?_))
    rw [z, hp] at h
    have := Option.some.inj h
    injection this with e
    match ns, e with
    | [], e => cases e
    | [_], e => simp at e
    | [_, _], e => simp at e
    | _ :: _ :: _ :: _, e => simp at e
  · refine .inl (.inr ⟨ob, hk _ _ h fun z => ?_⟩)
    rw [z, hp] at h
    cases h
  · exact .inr h
theorem StL.same {H H' : Hp} {a p : Addr} {ns : List Int} (s : Same H H') (h : StL K H a p ns) : StL K H' a p ns := by
  obtain ⟨x, k, h1, h2, h3⟩ := h
  exact ⟨x, k, s _ _ h1, h2, s.seq h3⟩
abbrev sCell : Stmt := top 23
theorem scCell : FnScope ["script", "k"] ["script", "k"] (defScope sCell) := ⟨rfl, rfl, rfl, by decide +kernel, rfl, by decide +kernel, by decide +kernel⟩
def spCell (K : PySem.W.Frag) : Sp := fun vs H Q _ => ∃ (a : Addr) (ns : List Int) (k : Int), vs = [.ref a, .int k] ∧ SqL K H a (ns.map V.int) ∧ 0 ≤ k ∧ ∀ c : Int, Q (.int c) H
theorem ok_cell {f : Addr} {fd : FuncData} (F : Fun K "_law_cell" "_law_cell" sCell f fd) (B : Bl mg) : FnOk P w K mg base CX0 1 f fd ["script", "k"] (spCell K) := by
  refine F.ok scCell (fun vs H Q E h => ?_) (fun cdv A outer s H vs Q E hr h => ?_)
  · obtain ⟨a, ns, k, rfl, _⟩ := h
    rfl
  · obtain ⟨a, ns, k, rfl, hS, h0, q⟩ := h
    refine ⟨_, pss_cons (ps_if (pt_cmpR op_lt (pv 1) (pe_callB call_len_seq (by rfl) B.len PySem.boot_len (pa_cons (pv 0) pa_nil)) (nomark _))
        (pss_one (ps_ret (pe_ix ix_list (pv 0) (pv 1) (fun _ _ => rfl))))
        pss_nil)
      (pss_one (ps_ret pe_int)), ?_⟩
    refine ⟨_, rfl, _, rfl, a, _, rfl, .inl hS, _, _, rfl, rfl, _, rfl, ite2 (fun e => ?_) (fun e => q 0)⟩
    have e1 : k < ((ns.map V.int).length : Nat) := of_decide_eq_true e
    obtain ⟨j, rfl⟩ : ∃ j : Nat, k = (j : Int) := ⟨k.toNat, by omega⟩
    have hj : j < ns.length := by
      rw [List.length_map] at e1
      omega
    refine ⟨_, rfl, _, rfl, a, _, _, V.int ns[j], rfl, rfl, hS, atI_nat ?_, q _⟩
    rw [List.getElem?_map, List.getElem?_eq_getElem hj]
    rfl
abbrev sBegin : Stmt := top 25
theorem scBegin : FnScope ["script", "k"] ["script", "k"] (defScope sBegin) := ⟨rfl, rfl, rfl, by decide +kernel, rfl, by decide +kernel, by decide +kernel⟩
def spBegin (K : PySem.W.Frag) : Sp := fun vs H Q _ => ∃ (a : Addr) (ns : List Int) (k : Int), vs = [.ref a, .int k] ∧ SqL K H a (ns.map V.int) ∧ 0 ≤ k ∧ ∀ H' p, H p = none → Same H H' → StL K H' a p ns → Q (.ref p) H'
theorem ok_begin {f : Addr} {fd : FuncData} (F : Fun K "_law_begin" "_law_begin" sBegin f fd) : FnOk P w K mg base CX0 1 f fd ["script", "k"] (spBegin K) := by
  refine F.ok scBegin (fun vs H Q E h => ?_) (fun cdv A outer s H vs Q E hr h => ?_)
  · obtain ⟨a, ns, k, rfl, _⟩ := h
    rfl
  · obtain ⟨a, ns, k, rfl, hS, h0, q⟩ := h
    refine ⟨_, pss_one (ps_ret (pe_lst (pa_cons pe_int (pa_cons (pv 1) (pa_cons (pv 0) pa_nil))))), ?_⟩
    refine ⟨_, rfl, _, rfl, (by show 3 ≤ sizeLine; decide), fun p hp => q _ p hp (same_upd hp) ⟨0, k, upd_same, h0, (same_upd hp).seq hS⟩⟩
abbrev sDraw : Stmt := top 26
theorem scDraw : FnScope ["state", "many", "k", "cell", "prime", "mixed", "digit"] ["state", "many"] (defScope sDraw) := ⟨rfl, rfl, rfl, by decide +kernel, rfl, by decide +kernel, by decide +kernel⟩
def spDraw (K : PySem.W.Frag) : Sp := fun vs H Q _ => ∃ (a p : Addr) (ns : List Int) (many : Int), vs = [.ref p, .int many] ∧ StL K H a p ns ∧ 0 < many ∧ many.natAbs < 2 ^ 80 ∧ ∀ H' (r : Int), Keep p H H' → StL K H' a p ns → 0 ≤ r → r < many → Q (.int r) H'
theorem ok_draw {f fC : Addr} {fd gC : FuncData} (F : Fun K "_law_draw" "_law_draw" sDraw f fd) (B : Bl mg) (FC : Fun K "_law_cell" "_law_cell" sCell fC gC) (bC : Binds K gC ["script", "k"] []) (mC : mg "_law_cell" = some (.ref fC)) : FnOk P w K mg base CX0 2 f fd ["state", "many"] (spDraw K) := by
  have GC : FnOk P w K mg base CX0 1 fC gC ["script", "k"] (spCell K) := ok_cell FC B
  refine F.ok scDraw (fun vs H Q E h => ?_) (fun cdv A outer s H vs Q E hr h => ?_)
  · obtain ⟨a, p, ns, many, rfl, _⟩ := h
    rfl
  · obtain ⟨a, p, ns, many, rfl, ⟨x, k, hp, hk, hS⟩, h0, h1, q⟩ := h
    refine ⟨_, pss_cut (ps_if (pt_cmpR op_lt (pe_ix ix_list (pv 0) pe_int (fun _ _ => rfl)) (pv 1) (nomark _))
        (pss_cons (ps_set (i := 2) scDraw.nd rfl (.inl rfl) (pe_ix ix_list (pv 0) pe_int (fun _ _ => rfl)))
        (pss_cons (ps_set (i := 3) scDraw.nd rfl (.inl rfl) (pe_call GC hr (by rfl) mC FC.kp bC .nil pass0 (pa_cons (pe_ix ix_list (pv 0) pe_int (fun _ _ => rfl)) (pa_cons (pv 2) pa_nil))))
        (pss_cons (ps_set (i := 4) scDraw.nd rfl (.inl rfl) pe_int)
        (pss_cons (ps_asg (pe_op op_add (pv 2) pe_int) (pg_sub (pv 0) pe_int set_list))
        (pss_cons (ps_asg (pe_callB call_abs (by rfl) B.abs (by decide +kernel) (pa_cons (pv 3) pa_nil)) (pg_sub (pv 0) pe_int set_list))
        (pss_one (ps_if (pt_chain op_lt op_lt (pe_un un_neg pe_int) (pv 3) pe_int)
          (pss_cons (ps_set (i := 5) scDraw.nd rfl (.inl rfl) (pe_op op_mod (pe_callTy call_int1 (by rfl) B.int (by decide +kernel) (pa_cons (pe_op op_add (pe_op op_mul (pv 3) pe_int) (pe_op op_mul (pe_op op_add (pv 2) pe_int) pe_int)) pa_nil)) (pv 4)))
          (pss_one (ps_asg (pe_op op_add (pe_op op_mod (pe_callTy call_int1 (by rfl) B.int (by decide +kernel) (pa_cons (pe_op op_add (pe_op op_add (pe_op op_mulW (pv 5) (pv 5)) (pe_op op_mul pe_int (pv 5))) (pv 2)) pa_nil)) (pv 4)) (pv 4)) (pg_sub (pv 0) pe_int set_list))))
          pss_nil)))))))
        pss_nil)
      (pss_cons (ps_set (i := 6) scDraw.nd rfl (.inl rfl) (pe_op op_mod (pe_callTy call_int1 (by rfl) B.int (by decide +kernel) (pa_cons (pe_ix ix_list (pv 0) pe_int (fun _ _ => rfl)) pa_nil)) (pv 1)))
      (pss_cons (ps_asg (pe_op op_fdivW (pe_ix ix_list (pv 0) pe_int (fun _ _ => rfl)) (pv 1)) (pg_sub (pv 0) pe_int set_list))
      (pss_one (ps_ret (pv 6))))), ?_⟩
    let M : List (Option V) → Hp → Prop := fun σ' H' => ∃ (y2 y3 y4 y5 : Option V) (x k : Int), σ' = [some (.ref p), some (.int many), y2, y3, y4, y5, none] ∧ Keep p H H' ∧ H' p = some (.lst [.int x, .int k, .ref a]) ∧ 0 ≤ k
    refine ⟨M, ⟨_, rfl, p, _, _, _, rfl, rfl, SqL.of hp, rfl, _, rfl, _, _, rfl, rfl, _, rfl, ite2 (fun e => ?_) (fun e => ⟨none, none, none, none, x, k, rfl, fun _ _ e _ => e, hp, hk⟩)⟩, ?_⟩
    · refine ⟨_, rfl, p, _, _, _, rfl, rfl, SqL.of hp, rfl, ?_⟩
      refine ⟨_, rfl, p, _, _, _, rfl, rfl, SqL.of hp, rfl, _, rfl, a, ns, k, rfl, hS, hk, fun cell => ?_⟩
      refine ⟨_, rfl, _, _, rfl, rfl, _, rfl, p, _, _, _, rfl, rfl, hp, rfl, ?_⟩
      refine ⟨_, rfl, _, rfl, _, rfl, p, _, _, _, rfl, rfl, upd_same, rfl, ?_⟩
      have fin : ∀ (z z' : Int) (Hx : Hp), Keep p H Hx → Keep p H (upd Hx p (.lst [.int z, .int z', .ref a])) := fun z z' Hx kx b o e n => by
        rw [upd_ne n]
        exact kx b o e n
      have k0 : Keep p H H := fun _ _ e _ => e
      have kA := fin x (k + 1) H k0
      have kB := fin (if cell < 0 then -cell else cell) (k + 1) _ kA
      have eB : upd (upd H p (.lst [.int x, .int (k + 1), .ref a])) p (.lst [.int (if cell < 0 then -cell else cell), .int (k + 1), .ref a]) p = some (.lst [.int (if cell < 0 then -cell else cell), .int (k + 1), .ref a]) := upd_same
      have done : ∀ (y5 : Option V) (z : Int) (Hx : Hp), Keep p H Hx → Hx p = some (.lst [.int z, .int (k + 1), .ref a]) → M [some (.ref p), some (.int many), some (.int k), some (.int cell), some (.int 618970019642690137449562111), y5, none] Hx := fun y5 z Hx k1 e1 => ⟨_, _, _, _, z, k + 1, rfl, k1, e1, by omega⟩
      refine ⟨_, rfl, _, rfl, _, _, rfl, rfl, _, rfl, ite2 (fun e1 => ⟨_, _, rfl, rfl, _, rfl, ite2 (fun e2 => ?_) (fun _ => done none _ _ kB eB)⟩) (fun _ => ⟨_, rfl, iteF (done none _ _ kB eB)⟩)⟩
      refine ⟨_, rfl, _, _, rfl, rfl, .inr ⟨by decide, by decide⟩, _, rfl, _, _, rfl, rfl, _, _, rfl, rfl, .inr ⟨by decide, by decide⟩, _, _, rfl, rfl, .inl ⟨_, rfl, _, rfl, _, _, rfl, rfl, (by show (0 : Int) < 618970019642690137449562111; decide), ?_⟩⟩
      dsimp only
      have m0 : 0 ≤ (cell * 2654435761 + (k + 1) * 6700417) % 618970019642690137449562111 := Int.emod_nonneg _ (by decide)
      have m1 : (cell * 2654435761 + (k + 1) * 6700417) % 618970019642690137449562111 < 618970019642690137449562111 := Int.emod_lt_of_pos _ (by decide)
      generalize (cell * 2654435761 + (k + 1) * 6700417) % 618970019642690137449562111 = mx at m0 m1 ⊢
      have mb : mx.natAbs < 2 ^ 90 := by
        have : (2 : Nat) ^ 90 = 1237940039285380274899124224 := by decide
        omega
      refine ⟨_, rfl, _, rfl, _, _, rfl, rfl, wide_mul mb mb (by decide) (by decide) (by decide), _, rfl, _, _, rfl, rfl, .inl ⟨by decide, by decide⟩, _, _, rfl, rfl, _, rfl, _, _, rfl, rfl, .inl ⟨_, rfl, _, rfl, _, _, rfl, rfl, (by show (0 : Int) < 618970019642690137449562111; decide), _, rfl, _, _, rfl, rfl, _, rfl, p, _, _, _, rfl, rfl, eB, rfl, ?_⟩⟩
      exact done _ _ _ (fin _ _ _ kB) upd_same
    rintro σ' H' ⟨y2, y3, y4, y5, x', k', rfl, k1, hp', hk'⟩
    refine ⟨_, rfl, p, _, _, _, rfl, rfl, SqL.of hp', rfl, .inl ⟨_, rfl, _, rfl, _, _, rfl, rfl, h0, ?_⟩⟩
    refine ⟨_, rfl, p, _, _, _, rfl, rfl, SqL.of hp', rfl, _, rfl, _, _, rfl, rfl, wide_div h0 h1 (by decide) (by decide), _, rfl, p, _, _, _, rfl, rfl, hp', rfl, ?_⟩
    have k2 : Keep p H (upd H' p (.lst [.int (x' / many), .int k', .ref a])) := fun b o e n => by
      rw [upd_ne n]
      exact k1 b o e n
    exact ⟨_, rfl, q _ _ k2 ⟨_, k', upd_same, hk', sql_keep k2 hp hS⟩ (Int.emod_nonneg _ (by omega)) (Int.emod_lt_of_pos _ h0)⟩
theorem kit_int_int : PySem.W.kitOne K (.type "int") (.type "int") = some true := kit_ty (show kitB "int" "int" = some true by decide +kernel)
theorem kit_int_bool : PySem.W.kitOne K (.type "int") (.type "bool") = some false := kit_ty (show kitB "int" "bool" = some false by decide +kernel)
abbrev sIsInteger : Stmt := top 24
theorem scIsInteger : FnScope ["told"] ["told"] (defScope sIsInteger) := ⟨rfl, rfl, rfl, by decide +kernel, rfl, by decide +kernel, by decide +kernel⟩
def spIsInteger : Sp := fun vs H Q _ => ∃ i : Int, vs = [.int i] ∧ Q (.bl true) H
theorem ok_is_integer {f : Addr} {fd : FuncData} (F : Fun K "_law_is_integer" "_law_is_integer" sIsInteger f fd) (B : Bl mg) : FnOk P w K mg base CX0 1 f fd ["told"] spIsInteger := by
  refine F.ok scIsInteger (fun vs H Q E h => ?_) (fun cdv A outer s H vs Q E hr h => ?_)
  · obtain ⟨i, rfl, _⟩ := h
    rfl
  · obtain ⟨i, rfl, q⟩ := h
    refine ⟨_, pss_one (ps_ret (pe_and (pe_callB call_isi (by rfl) B.isinstance (by decide +kernel) (pa_cons (pv 0) (pa_cons (pe_bltn (v := .ty "int") (by rfl) B.int (by decide +kernel) rfl) pa_nil))) (pe_one (pe_not (pe_callB call_isi (by rfl) B.isinstance (by decide +kernel) (pa_cons (pv 0) (pa_cons (pe_bltn (v := .ty "bool") (by rfl) B.bool (by decide +kernel) rfl) pa_nil))))))), ?_⟩
    exact ⟨_, rfl, _, .ty "int", _, _, true, rfl, .ty _, .base (.int _), kit_int_int, _, rfl, iteT ⟨_, rfl, _, .ty "bool", _, _, false, rfl, .ty _, .base (.int _), kit_int_bool, _, rfl, q⟩⟩
section
variable {P : Program} {w : World} {K : PySem.W.Frag} {mg : Str → Option Value} {base : Heap}
abbrev sPick : Stmt := top 27
theorem scPick : FnScope ["state", "row"] ["state", "row"] (defScope sPick) := ⟨rfl, rfl, rfl, by decide +kernel, rfl, by decide +kernel, by decide +kernel⟩
def spPick (K : PySem.W.Frag) : Sp := fun vs H Q _ => ∃ (a p r : Addr) (ns : List Int) (xs : List V), vs = [.ref p, .ref r] ∧ StL K H a p ns ∧ SqT K H r xs ∧ 0 < xs.length ∧ xs.length ≤ 100 ∧ ∀ H' v, v ∈ xs → Keep p H H' → StL K H' a p ns → Q v H'
theorem ok_pick {f fC fD : Addr} {fd gC gD : FuncData} (F : Fun K "_law_pick" "_law_pick" sPick f fd) (B : Bl mg) (FC : Fun K "_law_cell" "_law_cell" sCell fC gC) (bC : Binds K gC ["script", "k"] []) (mC : mg "_law_cell" = some (.ref fC))
    (FD : Fun K "_law_draw" "_law_draw" sDraw fD gD) (bD : Binds K gD ["state", "many"] []) (mD : mg "_law_draw" = some (.ref fD)) : FnOk P w K mg base CX0 3 f fd ["state", "row"] (spPick K) := by
  have GD : FnOk P w K mg base CX0 2 fD gD ["state", "many"] (spDraw K) := ok_draw FD B FC bC mC
  refine F.ok scPick (fun vs H Q E h => ?_) (fun cdv A outer s H vs Q E hr h => ?_)
  · obtain ⟨a, p, r, ns, xs, rfl, _⟩ := h
    rfl
  · obtain ⟨a, p, r, ns, xs, rfl, hst, ht, h0, h1, q⟩ := h
    refine ⟨_, pss_one (ps_ret (pe_ix ix_tup (pv 1) (pe_call GD hr (by rfl) mD FD.kp bD .nil pass0 (pa_cons (pv 0) (pa_cons (pe_callB call_len_seq (by rfl) B.len PySem.boot_len (pa_cons (pv 1) pa_nil)) pa_nil))) (fun _ _ => rfl))), ?_⟩
    refine ⟨_, rfl, _, rfl, _, rfl, r, _, rfl, .inr ht, a, p, ns, _, rfl, hst, by omega, by omega, fun H' i k1 st i0 i1 => ?_⟩
    obtain ⟨j, rfl⟩ : ∃ j : Nat, i = (j : Int) := ⟨i.toNat, by omega⟩
    have hj : j < xs.length := by omega
    obtain ⟨x, k, hp, _⟩ := hst
    exact ⟨r, xs, _, xs[j], rfl, rfl, sqt_keep k1 hp ht, atI_nat (List.getElem?_eq_getElem hj), q H' _ (List.getElem_mem hj) k1 st⟩
end
end My
namespace My
open PySem L2 SX
open C8 (pss_cut tCut cutS_slice pe_gc)
theorem ite_or {b : Bool} {A B : Prop} (h1 : b = true → A) (h2 : b = false → B) : if b = true then A else B := by
  cases b with
  | true => exact iteT (h1 rfl)
  | false => exact iteF (h2 rfl)
section
variable {P : Program} {w : World} {K : PySem.W.Frag} {mg : Str → Option Value} {base : Heap}
abbrev sLTakes : Stmt := top 29
abbrev sLGives : Stmt := top 30
theorem scLTakes : FnScope ["row", "word"] ["row"] (defScope sLTakes) := ⟨rfl, rfl, rfl, by decide +kernel, rfl, by decide +kernel, by decide +kernel⟩
theorem scLGives : FnScope ["row"] ["row"] (defScope sLGives) := ⟨rfl, rfl, rfl, by decide +kernel, rfl, by decide +kernel, by decide +kernel⟩
theorem at1_list (n : Nat) : atI (Row.list n).vs (1 : Int) = some (.int (n : Nat)) := atI_nat (j := 1) rfl
theorem at1_call (n : Nat) : atI (Row.call n).vs (1 : Int) = some (.int (n : Nat)) := atI_nat (j := 1) rfl
theorem at2_inv (n : Nat) : atI (Row.invoke n).vs (2 : Int) = some (.int (n : Nat)) := atI_nat (j := 2) rfl
theorem at2_sup : atI Row.sup.vs (2 : Int) = some (.int (0 : Nat)) := atI_nat (j := 2) rfl
theorem lt_words (r : Row) : (∃ n, (r = .list n ∨ r = .map n)) ∨ ¬ (r.k = 8 ∨ r.k = 9) := by
  cases r <;> first | exact .inl ⟨_, .inl rfl⟩ | exact .inl ⟨_, .inr rfl⟩ | (refine .inr fun z => ?_; simp [Row.k] at z)
theorem ok_law_takes {f : Addr} {fd : FuncData} (F : Fun K "_law_takes" "_law_takes" sLTakes f fd) (B : Bl mg) : FnOk P w K mg base CX0 1 f fd ["row"] (spN K Row.takes) := by
  refine F.ok scLTakes (fun vs H Q E h => ?_) (fun cdv A outer s H vs Q E hr h => ?_)
  · obtain ⟨q, r, rfl, _⟩ := h
    rfl
  · obtain ⟨q, r, rfl, hq, k⟩ := h
    have nd := scLTakes.nd
    refine ⟨_, pss_cons (ps_set (i := 1) nd rfl (.inl rfl) (pe_ix ix_tup (pv 0) pe_int (fun _ _ => rfl)))
      (pss_cons (ps_if (pt_cmpR op_in_seq (pv 1) (pe_tup (pa_cons pe_str (pa_cons pe_str pa_nil))) (by rfl)) (pss_one (ps_ret (pe_ix ix_tup (pv 0) pe_int (fun _ _ => rfl)))) pss_nil)
      (pss_cons (ps_if (pt_cmpR op_eq (pv 1) pe_str (nomark _)) (pss_one (ps_ret (pe_op op_add (pe_ix ix_tup (pv 0) pe_int (fun _ _ => rfl)) pe_int))) pss_nil)
      (pss_cons (ps_if (pt_cmpR op_eq (pv 1) pe_str (nomark _)) (pss_one (ps_ret (pe_op op_add (pe_ix ix_tup (pv 0) pe_int (fun _ _ => rfl)) pe_int))) pss_nil)
      (pss_cons (ps_if (pt_cmpR op_eq (pv 1) pe_str (nomark _)) (pss_one (ps_ret (pe_op op_add (pe_ix ix_tup (pv 0) pe_int (fun _ _ => rfl)) pe_int))) pss_nil)
      (pss_cons (ps_if (pt_cmpR op_in_seq (pv 1) (pe_tup (pa_cons pe_str (pa_cons pe_str (pa_cons pe_str (pa_cons pe_str pa_nil))))) (by rfl)) (pss_one (ps_ret pe_int)) pss_nil)
      (pss_cons (ps_if (pt_cmpR op_eq (pv 1) pe_str (nomark _)) (pss_one (ps_ret pe_int)) pss_nil)
      (pss_one (ps_ret (pe_callTy call_int1 (by rfl) B.int (by decide +kernel) (pa_cons (pe_cmpR op_in_seq (pv 1) (pe_tup (pa_cons pe_str (pa_cons pe_str (pa_cons pe_str (pa_cons pe_str (pa_cons pe_str (pa_cons pe_str (pa_cons pe_str (pa_cons pe_str pa_nil))))))))) (by rfl)) pa_nil)))))))))), ?_⟩
    have e1 := in_word (l := [.str "list", .str "map"]) (f := fun k => k == 8 || k == 9) (by decide +kernel) r
    have e2 := eq_word (s := "call") (f := fun k => k == 10) (by decide +kernel) r
    have e3 := eq_word (s := "invoke") (f := fun k => k == 11) (by decide +kernel) r
    have e4 := eq_word (s := "super") (f := fun k => k == 12) (by decide +kernel) r
    have e5 := in_word (l := [.str "add", .str "item", .str "method", .str "set_field"]) (f := fun k => k == 5 || k == 6 || k == 18 || k == 21) (by decide +kernel) r
    have e6 := eq_word (s := "set_item") (f := fun k => k == 7) (by decide +kernel) r
    have e7 := in_word (l := [.str "save", .str "pop", .str "not", .str "declare", .str "iter", .str "field", .str "raise", .str "ret"]) (f := fun k => k == 2 || k == 3 || k == 4 || k == 14 || k == 19 || k == 20 || k == 23 || k == 24) (by decide +kernel) r
    have fin : ∀ (n : Nat) (z : Int), r.takes = n → z = n → ∀ H', Same H H' → Q (.int z) H' := fun n z e1 e2 H' s' => by
      rw [e2, ← e1]
      exact k H' s'
    refine ⟨_, rfl, q, _, _, _, rfl, rfl, hq, at0 r, ?_⟩
    refine ⟨_, rfl, (by show 2 ≤ sizeLine; decide), fun t nt => ⟨t, _, rfl, .inr (.inl (.inl upd_same)), rfl, rfl, _, rfl, ?_⟩⟩
    have s1 := same_upd (o := .tup [.str "list", .str "map"]) nt
    have hq1 := same_sqt s1 hq
    refine ite_or (fun h => ?_) (fun h1 => ?_)
    · rw [e1] at h
      cases r <;> first | (simp [Row.k] at h; done) | exact ⟨_, rfl, q, _, _, _, rfl, rfl, hq1, at1_list _, fin _ _ (Nat.zero_add _) rfl _ s1⟩ | exact ⟨_, rfl, q, _, _, _, rfl, rfl, hq1, at1_map _, fin _ _ (Nat.zero_add _) rfl _ s1⟩
    refine ⟨_, rfl, rfl, _, rfl, ite_or (fun h => ?_) (fun h2 => ?_)⟩
    · have h := e2.symm.trans h
      cases r <;> first | (simp [Row.k] at h; done) | exact ⟨_, rfl, q, _, _, _, rfl, rfl, hq1, at1_call _, _, _, rfl, rfl, fin _ _ (Nat.add_comm _ _) (by show (_ : Int) + 1 = ((_ + 1 : Nat) : Int); rfl) _ s1⟩
    refine ⟨_, rfl, rfl, _, rfl, ite_or (fun h => ?_) (fun h3 => ?_)⟩
    · have h := e3.symm.trans h
      cases r <;> first | (simp [Row.k] at h; done) | exact ⟨_, rfl, q, _, _, _, rfl, rfl, hq1, at2_inv _, _, _, rfl, rfl, fin _ _ (Nat.add_comm _ _) (by show (_ : Int) + 1 = ((_ + 1 : Nat) : Int); rfl) _ s1⟩
    refine ⟨_, rfl, rfl, _, rfl, ite_or (fun h => ?_) (fun h4 => ?_)⟩
    · have h := e4.symm.trans h
      cases r <;> first | (simp [Row.k] at h; done) | exact ⟨_, rfl, q, _, _, _, rfl, rfl, hq1, at2_sup, _, _, rfl, rfl, fin 2 _ rfl rfl _ s1⟩
    refine ⟨_, rfl, (by show 4 ≤ sizeLine; decide), fun t2 nt2 => ⟨t2, _, rfl, .inr (.inl (.inl upd_same)), rfl, rfl, _, rfl, ?_⟩⟩
    have s2 := s1.trans (same_upd (o := .tup [.str "add", .str "item", .str "method", .str "set_field"]) nt2)
    refine ite_or (fun h => ?_) (fun h5 => ?_)
    · have h := e5.symm.trans h
      cases r <;> first | (simp [Row.k] at h; done) | exact fin 2 _ rfl rfl _ s2
    refine ⟨_, rfl, rfl, _, rfl, ite_or (fun h => ?_) (fun h6 => ?_)⟩
    · have h := e6.symm.trans h
      cases r <;> first | (simp [Row.k] at h; done) | exact fin 3 _ rfl rfl _ s2
    refine ⟨_, rfl, (by show 8 ≤ sizeLine; decide), fun t3 nt3 => ⟨t3, _, rfl, .inr (.inl (.inl upd_same)), rfl, rfl, .inr ⟨_, rfl, ?_⟩⟩⟩
    have s3 := s2.trans (same_upd (o := .tup [.str "save", .str "pop", .str "not", .str "declare", .str "iter", .str "field", .str "raise", .str "ret"]) nt3)
    have g1 := e1.symm.trans h1
    have g2 := e2.symm.trans h2
    have g3 := e3.symm.trans h3
    have g4 := e4.symm.trans h4
    have g5 := e5.symm.trans h5
    have g6 := e6.symm.trans h6
    rw [e7]
    cases r <;> first | (simp [Row.k] at g1; done) | (simp [Row.k] at g2; done) | (simp [Row.k] at g3; done) | (simp [Row.k] at g4; done) | (simp [Row.k] at g5; done) | (simp [Row.k] at g6; done) | exact fin 1 _ rfl rfl _ s3 | exact fin 0 _ rfl rfl _ s3
theorem ok_law_gives {f : Addr} {fd : FuncData} (F : Fun K "_law_gives" "_law_gives" sLGives f fd) (B : Bl mg) : FnOk P w K mg base CX0 1 f fd ["row"] (spN K Row.gives) := by
  refine F.ok scLGives (fun vs H Q E h => ?_) (fun cdv A outer s H vs Q E hr h => ?_)
  · obtain ⟨q, r, rfl, _⟩ := h
    rfl
  · obtain ⟨q, r, rfl, hq, k⟩ := h
    refine ⟨_, pss_one (ps_ret (pe_callTy call_int1 (by rfl) B.int (by decide +kernel) (pa_cons (pe_cmpR op_notIn_seq (pe_ix ix_tup (pv 0) pe_int (fun _ _ => rfl)) (pe_tup (pa_cons pe_str (pa_cons pe_str (pa_cons pe_str (pa_cons pe_str (pa_cons pe_str (pa_cons pe_str (pa_cons pe_str (pa_cons pe_str pa_nil))))))))) (by rfl)) pa_nil))), ?_⟩
    have e7 := in_word (l := [.str "declare", .str "blank", .str "drop", .str "pop", .str "enter", .str "leave", .str "raise", .str "ret"]) (f := fun k => k == 3 || k == 14 || k == 15 || k == 16 || k == 22 || k == 23 || k == 24) (by decide +kernel) r
    refine ⟨_, rfl, q, _, _, _, rfl, rfl, hq, at0 r, (by show 8 ≤ sizeLine; decide), fun t nt => ⟨t, _, rfl, .inr (.inl (.inl upd_same)), rfl, rfl, .inr ⟨_, rfl, ?_⟩⟩⟩
    have k' := k _ (same_upd (o := .tup [.str "declare", .str "blank", .str "drop", .str "pop", .str "enter", .str "leave", .str "raise", .str "ret"]) nt)
    rw [e7]
    cases r <;> exact k'
end
end My
namespace My
open PySem L2 SX
open C8 (pss_cut tCut cutS_slice pe_gc)
/-- where the law's small defs stand -/
structure Ld (K : PySem.W.Frag) (mg : Str → Option Value) (lT lG : Addr) (hT hG : FuncData) : Prop where
  fT : Fun K "_law_takes" "_law_takes" sLTakes lT hT
  bT : Binds K hT ["row"] []
  gT : mg "_law_takes" = some (.ref lT)
  fG : Fun K "_law_gives" "_law_gives" sLGives lG hG
  bG : Binds K hG ["row"] []
  gG : mg "_law_gives" = some (.ref lG)
theorem fst_at {cs : List Ch} {i n : Nat} {c : Ch} (h0 : fstC (cs.take i) n = none) (h : cs[i]? = some c) (hn : c.num = n) : fstC cs n = some c := by
  have e : cs = cs.take i ++ c :: cs.drop (i + 1) := by
    rw [← drop_cons h, List.take_append_drop]
  rw [e]
  unfold fstC at h0 ⊢
  rw [List.find?_append, h0]
  simp [hn]
section
variable {P : Program} {w : World} {K : PySem.W.Frag} {mg : Str → Option Value} {base : Heap} {cC lT lG lL : Addr} {hT hG hL : FuncData}
abbrev sLacks : Stmt := top 31
theorem scLacks : FnScope ["chunks", "row", "stack", "variables", "word", "need", "chunk"] ["chunks", "row", "stack", "variables"] (defScope sLacks) := ⟨rfl, rfl, rfl, by decide +kernel, rfl, by decide +kernel, by decide +kernel⟩
def spLacks (K : PySem.W.Frag) (cC : Addr) : Sp := fun vs H Q _ => ∃ (c q : Addr) (r : Row) (st va : Nat) (as : List Addr) (cs : List Ch), vs = [.ref c, .ref q, .int st, .int va] ∧ H c = some (.lst (as.map V.ref)) ∧ ChsAt K cC H as cs ∧ SqT K H q r.vs ∧ ∀ H', Same H H' → Q (optV (fault cs r st va)) H'
theorem ok_lacks {f : Addr} {fd : FuncData} (F : Fun K "_law_lacks" "_law_lacks" sLacks f fd) (B : Bl mg) (C : Cc K mg cC) (L : Ld K mg lT lG hT hG) : FnOk P w K mg base CX0 2 f fd ["chunks", "row", "stack", "variables"] (spLacks K cC) := by
  have GT : FnOk P w K mg base CX0 1 lT hT ["row"] (spN K Row.takes) := ok_law_takes L.fT B
  refine F.ok scLacks (fun vs H Q E h => ?_) (fun cdv A outer s H vs Q E hr h => ?_)
  · obtain ⟨c, q, r, st, va, as, cs, rfl, _⟩ := h
    rfl
  · obtain ⟨c, q, r, st, va, as, cs, rfl, hc, has, hq, k⟩ := h
    have nd := scLacks.nd
    refine ⟨_, pss_cons (ps_set (i := 4) nd rfl (.inl rfl) (pe_ix ix_tup (pv 1) pe_int (fun _ _ => rfl)))
      (pss_cut (ps_if (PW.pt (pw_and (pt_cmpR op_eq (pv 4) pe_str (nomark _)) (pw_and1 (pt_cmpR op_ne (pe_op op_mul (pe_op op_fdiv (pe_ix ix_tup (pv 1) pe_int (fun _ _ => rfl)) pe_int) pe_int) (pe_ix ix_tup (pv 1) pe_int (fun _ _ => rfl)) (nomark _))))) (pss_one (ps_ret pe_str)) pss_nil)
      (pss_cons (ps_if (pt_cmpR op_gt (pe_call GT hr (by rfl) L.gT L.fT.kp L.bT .nil pass0 (pa_cons (pv 1) pa_nil)) (pv 2) (nomark _)) (pss_one (ps_ret pe_str)) pss_nil)
      (pss_cons (ps_if (pt_cmpR op_eq (pv 4) pe_str (nomark _)) (pss_one (ps_ret pe_str)) pss_nil)
      (pss_cons (ps_set (i := 5) nd rfl (.inl rfl) pe_int)
      (pss_cut (ps_if (pt_cmpR op_in_seq (pv 4) (pe_tup (pa_cons pe_str (pa_cons pe_str pa_nil))) (by rfl)) (pss_one (ps_set (i := 5) nd rfl (.inl rfl) (pe_op op_add (pe_ix ix_tup (pv 1) pe_int (fun _ _ => rfl)) pe_int)))
        (pss_one (ps_if (pt_cmpR op_eq (pv 4) pe_str (nomark _)) (pss_one (ps_set (i := 5) nd rfl (.inl rfl) (pe_ix ix_tup (pv 1) pe_int (fun _ _ => rfl))))
          (pss_one (ps_if (pt_cmpR op_eq (pv 4) pe_str (nomark _)) (pss_one (ps_set (i := 5) nd rfl (.inl rfl) pe_int)) pss_nil)))))
      (pss_cons (ps_if (pt_cmpR op_gt (pv 5) (pv 3) (nomark _)) (pss_one (ps_ret pe_str)) pss_nil)
      (pss_cons (ps_if (pt_cmpR op_eq (pv 4) pe_str (nomark _))
        (pss_cons (ps_for PassesOwn.never rfl (pi_list (pv 0)) (pg_name (i := 6) nd rfl (.inl rfl))
          (pss_one (ps_if (pt_cmpR op_eq (pe_fld (pv 6) rfl) (pe_ix ix_tup (pv 1) pe_int (fun _ _ => rfl)) (nomark _))
            (pss_cons (ps_if (pt_cmpR op_ne (pe_fld (pv 6) rfl) (pe_ix ix_tup (pv 1) pe_int (fun _ _ => rfl)) (nomark _)) (pss_one (ps_ret pe_str)) pss_nil) (pss_one (ps_ret pe_non))) pss_nil)))
          (pss_one (ps_ret pe_str))) pss_nil)
      (pss_one (ps_ret pe_non))))))))), ?_⟩
    refine ⟨_, rfl, q, _, _, _, rfl, rfl, hq, at0 r, ?_⟩
    let M : List (Option V) → Hp → Prop := fun σ' H' => σ' = [some (.ref c), some (.ref q), some (.int st), some (.int va), some (.str r.wd), none, none] ∧ H' = H ∧ r.odd = false
    refine ⟨M, ⟨_, rfl, rfl, _, rfl, ?_⟩, ?_⟩
    · rcases w_map r with ⟨n, rfl, e⟩ | ⟨e, eo⟩
      · refine ifT e ⟨_, rfl, q, _, _, _, rfl, rfl, hq, at1_map n, _, _, rfl, rfl, ⟨by decide, by decide⟩, _, _, rfl, rfl, .inr ⟨by decide, by decide⟩, _, rfl, q, _, _, _, rfl, rfl, hq, at1_map n, rfl, _, rfl, ?_⟩
        cases ho : (Row.map n).odd with
        | true =>
          have ho' : n % 2 = 1 := by simpa [Row.odd] using ho
          refine ifT (by simp; omega) ?_
          have k' := k _ (Same.refl _)
          unfold fault at k'
          rw [if_pos ho] at k'
          exact k'
        | false =>
          have ho' : ¬ n % 2 = 1 := by simpa [Row.odd] using ho
          exact ifF (by simp; omega) ⟨rfl, rfl, ho⟩
      · exact ifF e ⟨rfl, rfl, eo⟩
    rintro σ' H0 ⟨rfl, rfl, eo⟩
    have kf : ∀ {x : Option Str}, fault cs r st va = x → ∀ H', Same H0 H' → Q (optV x) H' := fun e H' s' => by
      subst e
      exact k H' s'
    have f0 : fault cs r st va = (if st < r.takes then some ("too few values" : Str) else if 0 < r.left then some ("too few handlers" : Str) else if va < r.need then some ("too few variables" : Str) else cloF cs r) := by
      unfold fault
      rw [eo, if_neg Bool.false_ne_true]
    refine ⟨_, rfl, q, r, rfl, hq, fun H1 s1 => ⟨_, rfl, _, _, rfl, rfl, _, rfl, ?_⟩⟩
    by_cases c1 : st < r.takes
    · exact ifT (by simpa using c1) (kf (x := some "too few values") (by rw [f0, if_pos c1]) _ s1)
    rw [if_neg c1] at f0
    refine ifF (by simpa using c1) ⟨_, rfl, rfl, _, rfl, ?_⟩
    by_cases c2 : 0 < r.left
    · exact ifT (by rw [w_leave r]; cases r <;> first | rfl | (simp [Row.left] at c2; done)) (kf (x := some "too few handlers") (by rw [f0, if_pos c2]) _ s1)
    rw [if_neg c2] at f0
    have hl0 : r.left = 0 := by omega
    refine ifF (by rw [w_leave r, hl0]; rfl) ?_
    let M2 : List (Option V) → Hp → Prop := fun σ' H' => σ' = [some (.ref c), some (.ref q), some (.int st), some (.int va), some (.str r.wd), some (.int (r.need : Nat)), none] ∧ Same H0 H'
    refine ⟨M2, ⟨_, rfl, (by show 2 ≤ sizeLine; decide), fun t nt => ⟨t, _, rfl, .inr (.inl (.inl upd_same)), rfl, rfl, _, rfl, ?_⟩⟩, ?_⟩
    · have s2 := s1.trans (same_upd (o := .tup [.str "load", .str "save"]) nt)
      have hq2 := same_sqt s2 hq
      have e1 := in_word (l := [.str "load", .str "save"]) (f := fun k => k == 1 || k == 2) (by decide +kernel) r
      have e2 := eq_word (s := "drop") (f := fun k => k == 16) (by decide +kernel) r
      have e3 := eq_word (s := "class") (f := fun k => k == 17) (by decide +kernel) r
      refine ite_or (fun h => ?_) (fun h1 => ⟨_, rfl, rfl, _, rfl, ite_or (fun h => ?_) (fun h2 => ⟨_, rfl, rfl, _, rfl, ite_or (fun h => ?_) (fun h3 => ?_)⟩)⟩)
      · have h := e1.symm.trans h
        cases r <;> first | (simp [Row.k] at h; done) | exact ⟨_, rfl, q, _, _, _, rfl, rfl, hq2, at1_load _, _, _, rfl, rfl, rfl, s2⟩ | exact ⟨_, rfl, q, _, _, _, rfl, rfl, hq2, at1_save _, _, _, rfl, rfl, rfl, s2⟩
      · have h := e2.symm.trans h
        cases r <;> first | (simp [Row.k] at h; done) | exact ⟨_, rfl, q, _, _, _, rfl, rfl, hq2, at1_drop _, rfl, s2⟩
      · have h := e3.symm.trans h
        cases r <;> first | (simp [Row.k] at h; done) | exact ⟨rfl, s2⟩
      · have g1 := e1.symm.trans h1
        have g2 := e2.symm.trans h2
        have g3 := e3.symm.trans h3
        cases r <;> first | (simp [Row.k] at g1; done) | (simp [Row.k] at g2; done) | (simp [Row.k] at g3; done) | exact ⟨rfl, s2⟩
    rintro σ' H2 ⟨rfl, s2⟩
    refine ⟨_, rfl, _, rfl, _, _, rfl, rfl, _, rfl, ?_⟩
    by_cases c3 : va < r.need
    · exact ifT (by simpa using c3) (kf (x := some "too few variables") (by rw [f0, if_pos c3]) _ s2)
    rw [if_neg c3] at f0
    refine ifF (by simpa using c3) ⟨_, rfl, rfl, _, rfl, ?_⟩
    have hq2 := same_sqt s2 hq
    rcases w_closure r with ⟨f, n, rfl, e⟩ | ⟨e, _, ec⟩
    · refine ifT e ?_
      have hc2 := s2 _ _ hc
      refine ⟨_, rfl, c, rfl, ⟨_, SqL.of hc2⟩, for_list (K := K) (a := c) (xs := as.map V.ref) (fun i σ H' => ∃ y6 : Option V, σ = [some (.ref c), some (.ref q), some (.int st), some (.int va), some (.str (Row.closure f n).wd), some (.int ((Row.closure f n).need : Nat)), y6] ∧ H' = H2 ∧ fstC (cs.take i) f = none)
        ⟨none, rfl, rfl, rfl⟩ (fun i σ H' _ ⟨_, _, e, _⟩ => by rw [e]; exact SqL.of hc2) ?_ ?_⟩
      · rintro i v σ H3 hi ⟨y6, rfl, rfl, hn⟩
        obtain ⟨a, ch, rfl, hci, hca⟩ := has.get2 hi
        obtain ⟨dx, rl, sl, qs, h1, h2, h3⟩ := id (hca.same s2)
        refine ⟨_, rfl, a, cC, dx, _, _, rfl, h1, C.cl, C.n1, ch_num _ _ _, _, rfl, q, _, _, _, rfl, rfl, hq2, at1_clo f n, rfl, _, rfl, ?_⟩
        by_cases cf : ch.num = f
        · have hfs := fst_at hn hci cf
          refine ifT (by simp [cf]) ⟨_, rfl, a, cC, dx, _, _, rfl, h1, C.cl, C.n2, ch_want _ _ _, _, rfl, q, _, _, _, rfl, rfl, hq2, at2_clo f n, rfl, _, rfl, ?_⟩
          by_cases cw : n = ch.want
          · exact ifF (by simp [cw]) (kf (x := none) (by rw [f0]; simp [cloF, hfs, cw]) _ s2)
          · exact ifT (by simp; omega) (kf (x := some "another number of parameters") (by rw [f0]; simp [cloF, hfs, cw]) _ s2)
        · refine ifF (by simp; omega) ⟨_, rfl, rfl, ?_⟩
          rw [take_snoc hci, fst_snoc, hn]
          simp [cf]
      · rintro σ H3 ⟨y6, rfl, rfl, hn⟩
        rw [List.length_map, has.1, List.take_length] at hn
        exact kf (x := some "no such function") (by rw [f0]; simp [cloF, hn]) _ s2
    · exact ifF e (kf (x := none) (by rw [f0, ec]) _ s2)
end
end My
namespace My
open PySem L2 SX
open C8 (pss_cut tCut cutS_slice pe_gc)
theorem mk1_ended {r : Row} (h : r.mk1 = 1) : r.ended = 0 := by cases r <;> first | rfl | (simp [Row.mk1] at h; done)
def walkV (D : Addr) : Option (Nat × Str) × List (Nat × Nat) → List V
  | (some (i, m), _) => [.int i, .str m, .ref D]
  | (none, _) => [.non, .non, .ref D]
section
variable {P : Program} {w : World} {K : PySem.W.Frag} {mg : Str → Option Value} {base : Heap} {cC lT lG lL : Addr} {hT hG hL : FuncData}
abbrev sLWalk : Stmt := top 32
theorem scLWalk : FnScope ["chunks", "chunk", "variables", "stack", "closures", "at", "row", "flaw"] ["chunks", "chunk", "variables"] (defScope sLWalk) := ⟨rfl, rfl, rfl, by decide +kernel, rfl, by decide +kernel, by decide +kernel⟩
def spLWalk (K : PySem.W.Frag) (cC : Addr) : Sp := fun vs H Q _ => ∃ (c a : Addr) (va : Nat) (as : List Addr) (cs : List Ch) (ch : Ch), vs = [.ref c, .ref a, .int va] ∧ H c = some (.lst (as.map V.ref)) ∧ ChsAt K cC H as cs ∧ ChAt K cC H a ch ∧ ch.rows.length ≤ 100 ∧
  ∀ H' p D ts, Same H H' → H' p = some (.tup (walkV D (walk cs ch.rows 0 0 va []))) → H D = none → H' D = some (.lst ts) → PairsAt H' ts (walk cs ch.rows 0 0 va []).2 → Q (.ref p) H'
theorem ok_lwalk {f : Addr} {fd : FuncData} (F : Fun K "_law_walk" "_law_walk" sLWalk f fd) (B : Bl mg) (C : Cc K mg cC) (L : Ld K mg lT lG hT hG) (FL : Fun K "_law_lacks" "_law_lacks" sLacks lL hL) (bL : Binds K hL ["chunks", "row", "stack", "variables"] []) (gL : mg "_law_lacks" = some (.ref lL)) :
    FnOk P w K mg base CX0 3 f fd ["chunks", "chunk", "variables"] (spLWalk K cC) := by
  have GL : FnOk P w K mg base CX0 2 lL hL ["chunks", "row", "stack", "variables"] (spLacks K cC) := ok_lacks FL B C L
  have GT : FnOk P w K mg base CX0 1 lT hT ["row"] (spN K Row.takes) := ok_law_takes L.fT B
  have GG : FnOk P w K mg base CX0 1 lG hG ["row"] (spN K Row.gives) := ok_law_gives L.fG B
  refine F.ok scLWalk (fun vs H Q E h => ?_) (fun cdv A outer s H vs Q E hr h => ?_)
  · obtain ⟨c, a, va, as, cs, ch, rfl, _⟩ := h
    rfl
  · obtain ⟨c, a, va, as, cs, ch, rfl, hc, has, hca, h100, k⟩ := h
    have nd := scLWalk.nd
    have h1' : Room 1 _ := hr.mono (by decide)
    refine ⟨_, pss_cons (ps_set (i := 3) nd rfl (.inl rfl) pe_int)
      (pss_cons (ps_set (i := 4) nd rfl (.inl rfl) (pe_lst pa_nil))
      (pss_cons (ps_for PassesOwn.never rfl (pi_range1 (by rfl) B.range (pa_cons (pe_callB call_len_seq (by rfl) B.len PySem.boot_len (pa_cons (pe_fld (pv 1) rfl) pa_nil)) pa_nil)) (pg_name (i := 5) nd rfl (.inl rfl))
        (pss_cons (ps_set (i := 6) nd rfl (.inl rfl) (pe_ix ix_list (pe_fld (pv 1) rfl) (pv 5) (fun _ _ => rfl)))
        (pss_cons (ps_set (i := 7) nd rfl (.inl rfl) (pe_call GL hr (by rfl) gL FL.kp bL .nil pass0 (pa_cons (pv 0) (pa_cons (pv 6) (pa_cons (pv 3) (pa_cons (pv 2) pa_nil))))))
        (pss_cons (ps_if (pt_cmp (pc_notN (pv 7))) (pss_one (ps_ret (pe_tup (pa_cons (pv 5) (pa_cons (pv 7) (pa_cons (pv 4) pa_nil)))))) pss_nil)
        (pss_cut (ps_if (pt_cmpR op_eq (pe_ix ix_tup (pv 6) pe_int (fun _ _ => rfl)) pe_str (nomark _)) (pss_one (ps_expr (pe_bm PySem.F.plainAttrs_list PySem.F.slot_list_append PySem.F.type_list_append mt_append (pv 4) (pa_cons (pe_tup (pa_cons (pe_ix ix_tup (pv 6) pe_int (fun _ _ => rfl)) (pa_cons (pe_op op_add (pe_ix ix_tup (pv 6) pe_int (fun _ _ => rfl)) (pv 2)) pa_nil))) pa_nil)))) pss_nil)
        (pss_cons (ps_set (i := 3) nd rfl (.inl rfl) (pe_op op_add (pe_op op_sub (pv 3) (pe_call GT h1' (by rfl) L.gT L.fT.kp L.bT .nil pass0 (pa_cons (pv 6) pa_nil))) (pe_call GG h1' (by rfl) L.gG L.fG.kp L.bG .nil pass0 (pa_cons (pv 6) pa_nil))))
        (pss_cut (ps_if (pt_cmpR op_in_seq (pe_ix ix_tup (pv 6) pe_int (fun _ _ => rfl)) (pe_tup (pa_cons pe_str (pa_cons pe_str pa_nil))) (by rfl)) (pss_one (ps_set (i := 2) nd rfl (.inl rfl) (pe_op op_add (pv 2) pe_int)))
          (pss_one (ps_if (pt_cmpR op_eq (pe_ix ix_tup (pv 6) pe_int (fun _ _ => rfl)) pe_str (nomark _)) (pss_one (ps_set (i := 2) nd rfl (.inl rfl) (pe_op op_sub (pv 2) (pe_ix ix_tup (pv 6) pe_int (fun _ _ => rfl))))) pss_nil)))
        (pss_one (ps_if (pt_cmpR op_in_seq (pe_ix ix_tup (pv 6) pe_int (fun _ _ => rfl)) (pe_tup (pa_cons pe_str (pa_cons pe_str pa_nil))) (by rfl)) (pss_one (ps_ret (pe_tup (pa_cons pe_non (pa_cons pe_non (pa_cons (pv 4) pa_nil)))))) pss_nil)))))))))
      (pss_one (ps_ret (pe_tup (pa_cons (pe_callB call_len_seq (by rfl) B.len PySem.boot_len (pa_cons (pe_fld (pv 1) rfl) pa_nil)) (pa_cons pe_str (pa_cons (pv 4) pa_nil)))))))), ?_⟩
    refine ⟨Nat.zero_le _, fun D nD => ?_⟩
    have s1 := same_upd (o := .lst []) nD
    obtain ⟨dx, rl, sl, qs, h1, h2, h3⟩ := id hca
    have hlq : (qs.map V.ref).length = ch.rows.length := by rw [List.length_map, h3.len]
    let In : Nat → List (Option V) → Hp → Prop := fun i σ H' => ∃ (y5 y6 y7 : Option V) (st v : Nat) (ts : List V) (cl : List (Nat × Nat)), σ = [some (.ref c), some (.ref a), some (.int v), some (.int st), some (.ref D), y5, y6, y7] ∧ Same H H' ∧ H' D = some (.lst ts) ∧ PairsAt H' ts cl ∧ cl.length ≤ i ∧
      walk cs ch.rows 0 0 va [] = walk cs (ch.rows.drop i) i st v cl
    refine ⟨_, rfl, a, cC, dx, _, _, rfl, s1 _ _ h1, C.cl, C.n3, ch_rows _ _ _, rl, _, rfl, .inl (SqL.of (s1 _ _ h2)), _, rfl, by omega, by omega, for_range In ⟨none, none, none, 0, va, [], [], rfl, s1, upd_same, trivial, Nat.le_refl _, rfl⟩ ?_ ?_⟩
    · rintro i σ H1 hi ⟨y5, y6, y7, st, v, ts, cl, rfl, sH, hD, hts, hcl, ew⟩
      rw [Int.zero_add]
      have hi' : i < ch.rows.length := by omega
      obtain ⟨r, hr'⟩ : ∃ r, ch.rows[i]? = some r := ⟨_, List.getElem?_eq_getElem hi'⟩
      obtain ⟨q, hq1, hq0⟩ := h3.get hr'
      have gq : (qs.map V.ref)[i]? = some (V.ref q) := by rw [List.getElem?_map, hq1]; rfl
      have hq := same_sqt sH hq0
      refine ⟨_, rfl, a, cC, dx, _, _, rfl, sH _ _ h1, C.cl, C.n3, ch_rows _ _ _, _, rfl, rl, _, _, _, rfl, rfl, SqL.of (sH _ _ h2), atI_nat gq, ?_⟩
      refine ⟨_, rfl, _, rfl, _, rfl, _, rfl, c, q, r, st, v, as, cs, rfl, sH _ _ hc, has.imp (fun a c h => h.same sH), hq, fun H2 s2 => ⟨_, rfl, _, rfl, ?_⟩⟩
      have ewr : walk cs ch.rows 0 0 va [] = walk cs (r :: ch.rows.drop (i + 1)) i st v cl := by rw [ew, drop_at hr']
      have sH2 := sH.trans s2
      have hD2 := s2 _ _ hD
      have hts2 := hts.imp fun b xs e => s2 _ _ e
      cases hft : fault cs r st v with
      | some m =>
        refine ifT (by simp [optV]) ⟨_, rfl, _, rfl, _, rfl, (by show 3 ≤ sizeLine; decide), fun p np => ?_⟩
        have u1 := same_upd (o := .tup [.int i, .str m, .ref D]) np
        have ew' : walk cs ch.rows 0 0 va [] = (some (i, m), cl) := by
          rw [ewr]
          unfold walk
          rw [hft]
        refine k _ p D ts (sH2.trans u1) ?_ nD (u1 _ _ hD2) ?_
        · rw [ew']
          exact upd_same
        · rw [ew']
          exact hts2.imp fun b xs e => u1 _ _ e
      | none =>
        obtain ⟨c1, c2, c3⟩ := fault_none hft
        refine ifF rfl ?_
        have hq2 := same_sqt s2 hq
        let M : List (Option V) → Hp → Prop := fun σ' H' => ∃ ts', σ' = [some (.ref c), some (.ref a), some (.int v), some (.int st), some (.ref D), some (.int i), some (.ref q), some .non] ∧ Same H H' ∧ H' D = some (.lst ts') ∧ PairsAt H' ts' (cl ++ r.clos v)
        refine ⟨M, ⟨_, rfl, q, _, _, _, rfl, rfl, hq2, at0 r, rfl, _, rfl, ?_⟩, ?_⟩
        · rcases w_closure r with ⟨f, n, rfl, e⟩ | ⟨e, ec, _⟩
          · refine ifT e ⟨_, rfl, .inl ⟨rfl, _, SqL.of hD2⟩, _, rfl, q, _, _, _, rfl, rfl, hq2, at1_clo f n, _, rfl, q, _, _, _, rfl, rfl, hq2, at2_clo f n, _, rfl, _, _, rfl, rfl, (by show 2 ≤ sizeLine; decide), fun t nt => ?_⟩
            have u1 := same_upd (o := .tup [.int f, .int ((n : Int) + (v : Int))]) nt
            have hl0 := hts2.len
            refine ⟨D, _, _, rfl, rfl, u1 _ _ hD2, Nat.lt_of_le_of_lt (m := 101) (by omega) (by decide), ?_⟩
            have tu := tup_upd (o := .lst (ts ++ [.ref t])) (.inl ⟨_, u1 _ _ hD2⟩)
            exact ⟨ts ++ [.ref t], rfl, My.Same.put (sH2.trans u1) nD, upd_same, PairsAt.app (vs' := [.ref t]) (cs' := [(f, n + v)]) ⟨⟨t, rfl, tu _ _ upd_same⟩, trivial⟩ (hts2.imp fun b xs e => tu _ _ (u1 _ _ e))⟩
          · refine ifF e ⟨ts, rfl, sH2, hD2, ?_⟩
            rw [ec, List.append_nil]
            exact hts2
        rintro σ' H3 ⟨ts', rfl, sH3, hD3, hts3⟩
        have hq3 := same_sqt sH3 hq0
        refine ⟨_, rfl, _, rfl, q, r, rfl, hq3, fun H4 s4 => ⟨_, _, rfl, rfl, _, rfl, q, r, rfl, same_sqt s4 hq3, fun H5 s5 => ⟨_, _, rfl, rfl, ?_⟩⟩⟩
        have s45 := s4.trans s5
        have est : ((st : Int) - (r.takes : Int) + (r.gives : Int)) = ((st - r.takes + r.gives : Nat) : Int) := by omega
        have hq5 := same_sqt s45 hq3
        let M2 : List (Option V) → Hp → Prop := fun σ' H' => σ' = [some (.ref c), some (.ref a), some (.int ((v - r.ended + r.mk1 : Nat) : Int)), some (.int ((st : Int) - (r.takes : Int) + (r.gives : Int))), some (.ref D), some (.int i), some (.ref q), some .non] ∧ Same H5 H'
        refine ⟨M2, ⟨_, rfl, q, _, _, _, rfl, rfl, hq5, at0 r, (by show 2 ≤ sizeLine; decide), fun t nt => ⟨t, _, rfl, .inr (.inl (.inl upd_same)), rfl, rfl, _, rfl, ?_⟩⟩, ?_⟩
        · have u1 := same_upd (o := .tup [.str "declare", .str "blank"]) nt
          rcases w_db r with ⟨e, e1⟩ | ⟨e, e1⟩
          · refine ifT e ⟨_, rfl, _, _, rfl, rfl, ?_, u1⟩
            rw [mk1_ended e1, e1]
            rfl
          · refine ifF e ⟨_, rfl, q, _, _, _, rfl, rfl, same_sqt u1 hq5, at0 r, rfl, _, rfl, ?_⟩
            rcases w_drop r with ⟨n, rfl, e2⟩ | ⟨e2, e3⟩
            · refine ifT e2 ⟨_, rfl, _, rfl, q, _, _, _, rfl, rfl, same_sqt u1 hq5, at1_drop n, _, _, rfl, rfl, ?_, u1⟩
              have h : ((v - (Row.drop n).ended + (Row.drop n).mk1 : Nat) : Int) = (v : Int) - (n : Int) := by
                have : n ≤ v := c3
                show ((v - n + 0 : Nat) : Int) = _
                omega
              rw [h]
              rfl
            · refine ifF e2 ⟨?_, u1⟩
              rw [e3, e1]
              rfl
        rintro σ' H6 ⟨rfl, s6⟩
        have s36 := s45.trans s6
        have sH6 := sH3.trans s36
        have hD6 := s36 _ _ hD3
        have hts6 := hts3.imp fun b xs e => s36 _ _ e
        refine ⟨_, rfl, q, _, _, _, rfl, rfl, same_sqt s6 hq5, at0 r, (by show 2 ≤ sizeLine; decide), fun t nt => ⟨t, _, rfl, .inr (.inl (.inl upd_same)), rfl, rfl, _, rfl, ?_⟩⟩
        have u1 := same_upd (o := .tup [.str "raise", .str "ret"]) nt
        cases hE : r.isEnd with
        | true =>
          refine ifT ((w_ends r).trans hE) ⟨_, rfl, (by show 3 ≤ sizeLine; decide), fun p np => ?_⟩
          have u2 := same_upd (o := .tup [.non, .non, .ref D]) np
          have ew' : walk cs ch.rows 0 0 va [] = (none, cl ++ r.clos v) := by
            rw [ewr]
            unfold walk
            rw [hft]
            show (if r.isEnd = true then _ else _) = _
            rw [if_pos hE]
          refine k _ p D ts' (sH6.trans (u1.trans u2)) ?_ nD (u2 _ _ (u1 _ _ hD6)) ?_
          · rw [ew']
            exact upd_same
          · rw [ew']
            exact hts6.imp fun b xs e => u2 _ _ (u1 _ _ e)
        | false =>
          refine ifF ((w_ends r).trans hE) ⟨_, _, _, st - r.takes + r.gives, v - r.ended + r.mk1, ts', cl ++ r.clos v, by rw [← est], sH6.trans u1, u1 _ _ hD6, hts6.imp fun b xs e => u1 _ _ e, ?_, ?_⟩
          · have hc : (r.clos v).length ≤ 1 := by cases r <;> simp [Row.clos]
            rw [List.length_append]
            omega
          · rw [ewr]
            show walk cs (r :: _) i st v _ = _
            rw [walk, hft]
            show (if r.isEnd = true then _ else _) = _
            rw [if_neg (by rw [hE]; exact Bool.false_ne_true)]
    · rintro σ H1 ⟨y5, y6, y7, st, v, ts, cl, rfl, sH, hD, hts, hcl, ew⟩
      have en : (↑(List.map V.ref qs).length : Int).toNat = ch.rows.length := by rw [hlq]; rfl
      rw [en, List.drop_length] at ew
      refine ⟨_, rfl, a, cC, dx, _, _, rfl, sH _ _ h1, C.cl, C.n3, ch_rows _ _ _, rl, _, rfl, .inl (SqL.of (sH _ _ h2)), _, rfl, (by show 3 ≤ sizeLine; decide), fun p np => ?_⟩
      have u1 := same_upd (o := .tup [.int (qs.map V.ref).length, .str "the code ends here", .ref D]) np
      refine k _ p D ts (sH.trans u1) ?_ nD (u1 _ _ hD) ?_
      · rw [ew, hlq]
        exact upd_same
      · rw [ew]
        exact hts.imp fun b xs e => u1 _ _ e
end
end My
namespace My
open PySem L2 SX
open C8 (pss_cut tCut cutS_slice pe_gc)
section
variable {P : Program} {w : World} {K : PySem.W.Frag} {mg : Str → Option Value} {base : Heap} {cC lT lG lL lW : Addr} {hT hG hL hW : FuncData}
abbrev sLQueue : Stmt := top 33
theorem scLQueue : FnScope ["chunks", "flaws", "waiting", "begun", "k", "number", "variables", "chunk", "at", "flaw", "closures"] ["chunks"] (defScope sLQueue) := ⟨rfl, rfl, rfl, by decide +kernel, rfl, by decide +kernel, by decide +kernel⟩
def spLQueue (K : PySem.W.Frag) (cC : Addr) : Sp := fun vs H Q _ => ∃ (c : Addr) (as : List Addr) (cs : List Ch), vs = [.ref c] ∧ H c = some (.lst (as.map V.ref)) ∧ ChsAt K cC H as cs ∧ (fstC cs 0).isSome = true ∧ 1 + 22 * cs.length ≤ 400 ∧ (∀ ch ∈ cs, ch.rows.length ≤ 22) ∧
  ∀ H' p fs, Same H H' → H p = none → H' p = some (.lst fs) → FlAt H' fs (queueF cs 400 [(0, 0)] []) → Q (.ref p) H'
theorem ok_lqueue {f : Addr} {fd : FuncData} (F : Fun K "_law_queue" "_law_queue" sLQueue f fd) (B : Bl mg) (C : Cc K mg cC) (L : Ld K mg lT lG hT hG) (FL : Fun K "_law_lacks" "_law_lacks" sLacks lL hL) (bL : Binds K hL ["chunks", "row", "stack", "variables"] []) (gL : mg "_law_lacks" = some (.ref lL))
    (FW : Fun K "_law_walk" "_law_walk" sLWalk lW hW) (bW : Binds K hW ["chunks", "chunk", "variables"] []) (gW : mg "_law_walk" = some (.ref lW)) : FnOk P w K mg base CX0 4 f fd ["chunks"] (spLQueue K cC) := by
  have GW : FnOk P w K mg base CX0 3 lW hW ["chunks", "chunk", "variables"] (spLWalk K cC) := ok_lwalk FW B C L FL bL gL
  refine F.ok scLQueue (fun vs H Q E h => ?_) (fun cdv A outer s H vs Q E hr h => ?_)
  · obtain ⟨c, as, cs, rfl, _⟩ := h
    rfl
  · obtain ⟨c, as, cs, rfl, hc, has, h0, hN, h22, k⟩ := h
    have nd := scLQueue.nd
    refine ⟨_, pss_cons (ps_set (i := 1) nd rfl (.inl rfl) (pe_lst pa_nil))
      (pss_cons (ps_set (i := 2) nd rfl (.inl rfl) (pe_lst (pa_cons (pe_tup (pa_cons pe_int (pa_cons pe_int pa_nil))) pa_nil)))
      (pss_cons (ps_set (i := 3) nd rfl (.inl rfl) pe_dnewK)
      (pss_cons (ps_for PassesOwn.never rfl (pi_range1 (by rfl) B.range (pa_cons pe_int pa_nil)) (pg_name (i := 4) nd rfl (.inl rfl))
        (pss_cons (ps_if (pt_cmpR op_ge (pv 4) (pe_callB call_len_seq (by rfl) B.len PySem.boot_len (pa_cons (pv 2) pa_nil)) (nomark _)) (pss_one ps_break) pss_nil)
        (pss_cons (ps_asg (pe_ix ix_list (pv 2) (pv 4) (fun _ _ => rfl)) (pg_tup (by rfl) (pgs_cons (pg_name (i := 5) nd rfl (.inr rfl)) (pgs_cons (pg_name (i := 6) nd rfl (.inl rfl)) pgs_nil))))
        (pss_cons (ps_if (pt_cmp (pc_din (hu_of hr) (pv 5) (pv 3)))
          (pss_cons (ps_if (pt_cmpR op_ne (pe_dget (hu_of hr) (pv 3) (pv 5) (fun _ _ => rfl)) (pv 6) (nomark _)) (pss_one (ps_expr (pe_bm PySem.F.plainAttrs_list PySem.F.slot_list_append PySem.F.type_list_append mt_append (pv 1) (pa_cons (pe_tup (pa_cons (pv 5) (pa_cons pe_int (pa_cons pe_str pa_nil)))) pa_nil)))) pss_nil)
            (pss_one ps_continue)) pss_nil)
        (pss_cons (ps_dput (hu_of hr) (pv 3) (pv 5) (pv 6) (by rfl))
        (pss_cons (ps_set (i := 7) nd rfl (.inl rfl) (pe_ix ix_list (pe_lc (own := [("chunk", 7)]) (g := gName 7) (te := tVar 7) (by rfl) nd (pi_list (pv 0)) (blkOk_by (own := [("chunk", 7)]) (N := ["chunks", "flaws", "waiting", "begun", "k", "number", "variables", "chunk", "at", "flaw", "closures"]) (sc := defScope sLQueue) (by decide +kernel))
            (fun _ _ _ _ _ => pg_name (i := 7) nd rfl (.inl rfl)) (tt := tTest (tOp rEq (tFld K (tVar 7) "number") (tVar 5))) (fun _ _ _ _ _ => pts_one (pt_cmpR op_eq (pe_fld (pv 7) rfl) (pv 5) (nomark _))) (fun _ _ _ _ _ => pv 7)) pe_int (fun _ _ => rfl)))
        (pss_cons (ps_asg (pe_call GW hr (by rfl) gW FW.kp bW .nil pass0 (pa_cons (pv 0) (pa_cons (pv 7) (pa_cons (pv 6) pa_nil)))) (pg_tup (by rfl) (pgs_cons (pg_name (i := 8) nd rfl (.inl rfl)) (pgs_cons (pg_name (i := 9) nd rfl (.inl rfl)) (pgs_cons (pg_name (i := 10) nd rfl (.inl rfl)) pgs_nil)))))
        (pss_one (ps_if (pt_cmp (pc_isN (pv 9)))
          (pss_one (ps_expr (pe_bm PySem.F.plainAttrs_list PySem.F.slot_list_extend PySem.F.type_list_extend mt_extend (pv 2) (pa_cons (pv 10) pa_nil))))
          (pss_one (ps_expr (pe_bm PySem.F.plainAttrs_list PySem.F.slot_list_append PySem.F.type_list_append mt_append (pv 1) (pa_cons (pe_tup (pa_cons (pv 5) (pa_cons (pv 8) (pa_cons (pv 9) pa_nil)))) pa_nil)))))))))))))
      (pss_one (ps_ret (pv 1)))))), ?_⟩
    refine ⟨Nat.zero_le _, fun fl nfl => ⟨(by show 2 ≤ sizeLine; decide), fun t0 nt0 => ⟨(by show 1 ≤ sizeLine; decide), fun ql nql => fun d nd0 => ?_⟩⟩⟩
    have s1 := same_upd (o := .lst []) nfl
    have s2 := same_upd (o := .tup [.int 0, .int 0]) nt0
    have s3 := same_upd (o := .lst [.ref t0]) nql
    have s4 := same_upd (o := .dK []) nd0
    have nq1 := sNew s1 (sNew s2 nql)
    have nd1 := sNew s1 (sNew s2 (sNew s3 nd0))
    have nfq : fl ≠ ql := fun z => by rw [← z, s2 _ _ upd_same] at nql; cases nql
    have nfd : fl ≠ d := fun z => by rw [← z, s3 _ _ (s2 _ _ upd_same)] at nd0; cases nd0
    have nqd : ql ≠ d := fun z => by rw [← z, upd_same] at nd0; cases nd0
    let In : Nat → List (Option V) → Hp → Prop := fun i σ H' => ∃ (y4 y5 y6 y7 y8 y9 y10 : Option V) (m : Nat) (done todo begun : List (Nat × Nat)) (fs qs : List V) (out : List Fl),
      σ = [some (.ref c), some (.ref fl), some (.ref ql), some (.ref d), y4, y5, y6, y7, y8, y9, y10] ∧ Same H H' ∧ H' fl = some (.lst fs) ∧ FlAt H' fs out ∧ H' d = some (.dK (begK begun)) ∧ H' ql = some (.lst qs) ∧ PairsAt H' qs (done ++ todo) ∧ i = done.length ∧
      out.length ≤ i ∧ begun.length ≤ i ∧ i + m = 400 ∧ todo.length + 22 * freeN cs begun ≤ m ∧ (∀ x ∈ todo, (fstC cs x.1).isSome = true) ∧ queueF cs 400 [(0, 0)] [] = out ++ queueF cs m todo begun
    refine ⟨_, rfl, by decide, by decide, for_range In ⟨none, none, none, none, none, none, none, 400, [], [(0, 0)], [], [], [.ref t0], [], rfl, s1.trans (s2.trans (s3.trans s4)), s4 _ _ (s3 _ _ (s2 _ _ upd_same)), trivial, upd_same, s4 _ _ upd_same, ⟨⟨t0, rfl, s4 _ _ (s3 _ _ upd_same)⟩, trivial⟩, rfl, Nat.le_refl _, Nat.le_refl _, rfl, ?_, ?_, rfl⟩ ?_ ?_⟩
    · have : freeN cs [] ≤ cs.length := List.length_filter_le _ _
      show 1 + _ ≤ 400
      omega
    · intro x hx
      rw [List.mem_singleton] at hx
      subst hx
      exact h0
    · rintro at' σ H1 hat ⟨y4, y5, y6, y7, y8, y9, y10, m, done, todo, begun, fs, qs, out, rfl, sH, hfl, hfs, hd, hql, hqs, ea, hol, hbl, hm, hpot, hso, ew⟩
      rw [Int.zero_add]
      have hql' : qs.length = done.length + todo.length := by rw [hqs.len, List.length_append]
      refine ⟨_, rfl, _, rfl, ql, _, rfl, .inl (SqL.of hql), _, _, rfl, rfl, _, rfl, ?_⟩
      cases todo with
      | nil =>
        refine ifT (by simp only [List.length_nil] at hql'; simp; omega) ⟨_, rfl, k _ fl fs sH nfl hfl ?_⟩
        rw [ew, queueF_nil, List.append_nil]
        exact hfs
      | cons x rest =>
        simp only [List.length_cons] at hql' hpot
        obtain ⟨m', rfl⟩ : ∃ m', m = m' + 1 := ⟨m - 1, by omega⟩
        refine ifF (by simp; omega) ?_
        obtain ⟨q, hq1, hq2⟩ := hqs.get (i := at') (c := x) (by rw [ea, List.getElem?_append_right (Nat.le_refl _), Nat.sub_self]; rfl)
        refine ⟨_, rfl, _, rfl, ql, _, _, _, rfl, rfl, SqL.of hql, atI_nat hq1, q, _, rfl, .inl (.inl hq2), rfl, _, _, rfl, _, _, rfl, rfl, ?_⟩
        have hsr : ∀ y ∈ rest, (fstC cs y.1).isSome = true := fun y hy => hso y (List.mem_cons_of_mem _ hy)
        have hsplit : done ++ x :: rest = (done ++ [x]) ++ rest := by simp
        have hd1l : (done ++ [x]).length = at' + 1 := by rw [List.length_append, List.length_singleton, ea]
        have hv0 : valV (begK begun) (Sum.inl (x.1 : Int) : Key) = (begun.lookup x.1).map fun v => V.int v := begK_at
        cases hl : begun.lookup x.1 with
        | none =>
          rw [hl] at hv0
          have hg : DGet H1 d (.int x.1) none := by
            have hv1 : valV (begK begun) (Sum.inl (x.1 : Int) : Key) = none := hv0
            rw [← hv1]
            exact DGet.k (k := Sum.inl (x.1 : Int)) hd
          refine ⟨_, rfl, _, rfl, d, none, rfl, hg, _, rfl, ifF rfl ?_⟩
          refine ⟨_, rfl, _, rfl, _, rfl, d, _, rfl, DPut.k (k := Sum.inl (x.1 : Int)) hd (Nat.lt_of_le_of_lt (m := 400) (by rw [begK, List.length_map]; omega) (by decide)), ?_⟩
          rw [putK_new _ hv0, ← begK_snoc]
          have hx := hso x (List.mem_cons_self ..)
          obtain ⟨ch, hch⟩ : ∃ ch, fstC cs x.1 = some ch := Option.isSome_iff_exists.mp hx
          have hc22 : ch.rows.length ≤ 22 := h22 ch (List.mem_of_find?_eq_some hch)
          have sH2 : Same H (upd H1 d (.dK (begK (begun ++ [x])))) := My.Same.put sH nd1
          have fl2 : (upd H1 d (.dK (begK (begun ++ [x])))) fl = some (.lst fs) := by rw [upd_ne nfd]; exact hfl
          have ql2 : (upd H1 d (.dK (begK (begun ++ [x])))) ql = some (.lst qs) := by rw [upd_ne nqd]; exact hql
          have tu2 := tup_upd (o := .dK (begK (begun ++ [x]))) (.inr (.inl ⟨_, hd⟩))
          -- the chunks of this number
          refine ⟨_, rfl, c, rfl, ⟨_, SqL.of (sH2 _ _ hc)⟩, fun D nD => lc_it (walk_list (K := K) (a := c) (xs := as.map V.ref)) (fun j H' => ∃ acc : List V, H' D = some (.lst acc) ∧ acc.length ≤ j ∧ Same (upd H1 d (.dK (begK (begun ++ [x])))) H' ∧
            (match fstC (cs.take j) x.1 with | none => acc = [] | some c0 => ∃ a0 r0, acc = V.ref a0 :: r0 ∧ ChAt K cC H a0 c0)) ⟨[], upd_same, Nat.le_refl _, same_upd nD, rfl⟩ (fun j H' _ ⟨_, _, _, s', _⟩ => SqL.of (s' _ _ (sH2 _ _ hc))) ?_ ?_⟩
          · rintro j z H3 H4 hj ⟨acc, e1, e2, s', e4⟩ ⟨rfl, hz⟩
            obtain ⟨a0, c0, rfl, hci, hca⟩ := has.get2 hz
            obtain ⟨dx, rl, sl, qs', h1, h2, h3⟩ := id (hca.same (sH2.trans s'))
            refine ⟨rfl, _, rfl, a0, cC, dx, _, _, rfl, h1, C.cl, C.n1, ch_num _ _ _, _, rfl, rfl, _, rfl, ?_⟩
            by_cases cf : c0.num = x.1
            · refine ifT (by simp [cf]) ⟨_, rfl, acc, e1, Nat.lt_of_le_of_lt (m := 401) (by rw [List.length_map, has.1] at hj; omega) (by decide), acc ++ [.ref a0], upd_same, by simp; omega, My.Same.put s' nD, ?_⟩
              rw [take_snoc hci, fst_snoc]
              cases hf : fstC (cs.take j) x.1 with
              | none =>
                rw [hf] at e4
                have e4' : acc = [] := e4
                simp only [if_pos cf]
                exact ⟨a0, [], by rw [e4']; rfl, hca⟩
              | some c1 =>
                rw [hf] at e4
                obtain ⟨a1, r1, ex, hc1⟩ := e4
                exact ⟨a1, r1 ++ [.ref a0], by rw [ex]; rfl, hc1⟩
            · refine ifF (by simp; omega) ⟨acc, e1, by omega, s', ?_⟩
              rw [take_snoc hci, fst_snoc]
              cases hf : fstC (cs.take j) x.1 with
              | none =>
                rw [hf] at e4
                simp only [if_neg cf]
                exact e4
              | some c1 =>
                rw [hf] at e4
                exact e4
          · rintro H3 ⟨acc, e1, e2, s', e4⟩
            rw [List.length_map, has.1, List.take_length, hch] at e4
            obtain ⟨a0, r0, rfl, hca⟩ := e4
            have sH3 := sH2.trans s'
            refine ⟨D, _, _, _, rfl, rfl, SqL.of e1, atI_nat (j := 0) rfl, ?_⟩
            refine ⟨_, rfl, _, rfl, _, rfl, c, a0, x.2, as, cs, ch, rfl, sH3 _ _ hc, has.imp (fun a c h => h.same sH3), hca.same sH3, by omega, fun H4 p md ts s5 hp nmd hD4 hP => ?_⟩
            have sH4 := sH3.trans s5
            have s25 := s'.trans s5
            have fl3 := s25 _ _ fl2
            have ql3 := s25 _ _ ql2
            have d3 := s25 _ _ (upd_same (H := H1) (a := d) (o := .dK (begK (begun ++ [x]))))
            have fs3 : FlAt H4 fs out := hfs.imp fun b xs e => s25 _ _ (tu2 _ _ e)
            have qs3 : PairsAt H4 qs (done ++ x :: rest) := hqs.imp fun b xs e => s25 _ _ (tu2 _ _ e)
            have hfree := free_lt (v := x.2) hl hch
            rw [show ((x.1, x.2) : Nat × Nat) = x from rfl] at hfree
            have hfl0 := hfs.len
            have nmd2 : md ≠ ql := fun z => by rw [z, s' _ _ ql2] at nmd; cases nmd
            cases hw : walk cs ch.rows 0 0 x.2 [] with
            | mk o cl =>
            rw [hw] at hp hP
            have hP : PairsAt H4 ts cl := hP
            cases o with
            | some im =>
              obtain ⟨i, mg'⟩ := im
              refine ⟨p, _, rfl, .inl (.inl hp), rfl, _, _, rfl, _, _, rfl, _, _, rfl, rfl, _, rfl, _, rfl, ifF (by simp) ?_⟩
              refine ⟨_, rfl, .inl ⟨rfl, _, SqL.of fl3⟩, _, rfl, _, rfl, _, rfl, (by show 3 ≤ sizeLine; decide), fun t nt => ?_⟩
              have u1 := same_upd (o := .tup [.int x.1, .int i, .str mg']) nt
              refine ⟨fl, _, _, rfl, rfl, u1 _ _ fl3, Nat.lt_of_le_of_lt (m := 401) (by omega) (by decide), ?_⟩
              have tu4 := tup_upd (o := .lst (fs ++ [.ref t])) (.inl ⟨_, u1 _ _ fl3⟩)
              refine ⟨_, _, _, _, _, _, _, m', done ++ [x], rest, begun ++ [x], fs ++ [.ref t], qs, out ++ [(x.1, i, mg')], rfl, My.Same.put (sH4.trans u1) nfl, upd_same, ?_, ?_, ?_, ?_, hd1l.symm, ?_, ?_, by omega, by omega, hsr, ?_⟩
              · exact FlAt.app (vs' := [.ref t]) (cs' := [(x.1, i, mg')]) ⟨⟨t, rfl, tu4 _ _ upd_same⟩, trivial⟩ (fs3.imp fun b xs e => tu4 _ _ (u1 _ _ e))
              · rw [upd_ne (Ne.symm nfd)]
                exact u1 _ _ d3
              · rw [upd_ne (Ne.symm nfq)]
                exact u1 _ _ ql3
              · rw [← hsplit]
                exact qs3.imp fun b xs e => tu4 _ _ (u1 _ _ e)
              · rw [List.length_append, List.length_singleton]
                omega
              · rw [List.length_append, List.length_singleton]
                omega
              · rw [ew]
                simp only [queueF, hl, hch, hw, List.append_assoc, List.singleton_append]
            | none =>
              have hcl := walk_len hw
              have hcs := walk_some hw (by simp)
              rw [List.length_nil] at hcl
              have hts : ts.length = cl.length := hP.len
              refine ⟨p, _, rfl, .inl (.inl hp), rfl, _, _, rfl, _, _, rfl, _, _, rfl, rfl, _, rfl, _, rfl, ifT rfl ?_⟩
              refine ⟨_, rfl, .inl ⟨rfl, _, SqL.of ql3⟩, _, rfl, ql, md, _, _, rfl, rfl, ql3, hD4, Nat.le_trans (m := 1000) (by omega) (by decide), ?_⟩
              have tu5 := tup_upd (o := .lst (qs ++ ts)) (.inl ⟨_, ql3⟩)
              refine ⟨_, _, _, _, _, _, _, m', done ++ [x], rest ++ cl, begun ++ [x], fs, qs ++ ts, out, rfl, My.Same.put sH4 nq1, ?_, ?_, ?_, upd_same, ?_, hd1l.symm, by omega, ?_, by omega, ?_, ?_, ?_⟩
              · rw [upd_ne nfq]
                exact fl3
              · exact fs3.imp fun b xs e => tu5 _ _ e
              · rw [upd_ne (Ne.symm nqd)]
                exact d3
              · rw [← List.append_assoc, ← hsplit]
                exact PairsAt.app (hP.imp fun b xs e => tu5 _ _ e) (qs3.imp fun b xs e => tu5 _ _ e)
              · rw [List.length_append, List.length_singleton]
                omega
              · rw [List.length_append]
                omega
              · intro y hy
                rcases List.mem_append.mp hy with hy | hy
                · exact hsr y hy
                · exact hcs y hy
              · rw [ew]
                simp only [queueF, hl, hch, hw]
        | some v =>
          rw [hl] at hv0
          have hg : DGet H1 d (.int x.1) (some (.int v)) := by
            have hv1 : valV (begK begun) (Sum.inl (x.1 : Int) : Key) = some (.int v) := hv0
            rw [← hv1]
            exact DGet.k (k := Sum.inl (x.1 : Int)) hd
          refine ⟨_, rfl, _, rfl, d, some (.int v), rfl, hg, _, rfl, ifT rfl ?_⟩
          refine ⟨_, rfl, _, rfl, d, .int v, rfl, hg, _, rfl, rfl, _, rfl, ?_⟩
          by_cases hvx : v = x.2
          · refine ifF (by simp [hvx]) ⟨_, _, _, _, _, _, _, m', done ++ [x], rest, begun, fs, qs, out, rfl, sH, hfl, hfs, hd, hql, by rw [← hsplit]; exact hqs, hd1l.symm, by omega, by omega, by omega, by omega, hsr, ?_⟩
            rw [ew]
            simp only [queueF, hl, if_pos hvx, List.nil_append]
          · refine ifT (by simp; omega) ⟨_, rfl, .inl ⟨rfl, _, SqL.of hfl⟩, _, rfl, (by show 3 ≤ sizeLine; decide), fun t nt => ?_⟩
            have u1 := same_upd (o := .tup [.int x.1, .int 0, .str "made in different scopes"]) nt
            have hf0 := hfs.len
            refine ⟨fl, _, _, rfl, rfl, u1 _ _ hfl, Nat.lt_of_le_of_lt (m := 401) (by omega) (by decide), ?_⟩
            have tu4 := tup_upd (o := .lst (fs ++ [.ref t])) (.inl ⟨_, u1 _ _ hfl⟩)
            refine ⟨_, _, _, _, _, _, _, m', done ++ [x], rest, begun, fs ++ [.ref t], qs, out ++ [(x.1, 0, ("made in different scopes" : Str))], rfl, My.Same.put (sH.trans u1) nfl, upd_same, ?_, ?_, ?_, ?_, hd1l.symm, ?_, by omega, by omega, by omega, hsr, ?_⟩
            · exact FlAt.app (vs' := [.ref t]) (cs' := [(x.1, 0, ("made in different scopes" : Str))]) ⟨⟨t, rfl, tu4 _ _ upd_same⟩, trivial⟩ (hfs.imp fun b xs e => tu4 _ _ (u1 _ _ e))
            · rw [upd_ne (Ne.symm nfd)]
              exact u1 _ _ hd
            · rw [upd_ne (Ne.symm nfq)]
              exact u1 _ _ hql
            · rw [← hsplit]
              exact hqs.imp fun b xs e => tu4 _ _ (u1 _ _ e)
            · rw [List.length_append, List.length_singleton]
              omega
            · rw [ew]
              simp only [queueF, hl, if_neg hvx, List.append_assoc]
    · rintro σ H1 ⟨y4, y5, y6, y7, y8, y9, y10, m, done, todo, begun, fs, qs, out, rfl, sH, hfl, hfs, hd, hql, hqs, ea, hol, hbl, hm, hpot, hso, ew⟩
      have e400 : ((400 : Int)).toNat = 400 := rfl
      rw [e400] at hm
      have ht : todo = [] := by
        cases todo with
        | nil => rfl
        | cons x r => simp only [List.length_cons] at hpot; omega
      refine ⟨_, rfl, k _ fl fs sH nfl hfl ?_⟩
      rw [ew, ht, queueF_nil, List.append_nil]
      exact hfs
end
end My
namespace My
open PySem L2 SX
open C8 (pss_cut tCut cutS_slice pe_gc)
theorem inV_nums {n : Nat} : ∀ {l : List Ch}, inV (.int (n : Nat)) (l.map fun c => V.int (c.num : Nat)) = (fstC l n).isSome
  | [] => rfl
  | c :: l => by
    show (eqV (V.int (c.num : Nat)) (V.int (n : Nat)) || inV (.int (n : Nat)) (l.map fun c => V.int (c.num : Nat))) = _
    rw [inV_nums]
    unfold fstC
    rw [List.find?_cons]
    have e : eqV (V.int (c.num : Nat)) (V.int (n : Nat)) = decide (c.num = n) := by
      show decide ((c.num : Int) = (n : Int)) = _
      by_cases h : c.num = n
      · simp [h]
      · simp [h]
        omega
    rw [e]
    by_cases h : c.num = n
    · simp [h]
    · have h' : (c.num == n) = false := by simpa using h
      simp [h, h']
theorem flat_nums : ∀ {l : List Ch}, (l.map fun c => V.int (c.num : Nat)).all flatV = true
  | [] => rfl
  | c :: l => by
    show (flatV (V.int (c.num : Nat)) && (l.map fun c => V.int (c.num : Nat)).all flatV) = true
    rw [flat_nums]
    rfl
section
variable {P : Program} {w : World} {K : PySem.W.Frag} {mg : Str → Option Value} {base : Heap} {cC lT lG lL lW lQ : Addr} {hT hG hL hW hQ : FuncData}
abbrev sLDue : Stmt := top 34
theorem scLDue : FnScope ["chunks", "flaws", "numbers", "chunk"] ["chunks"] (defScope sLDue) := ⟨rfl, rfl, rfl, by decide +kernel, rfl, by decide +kernel, by decide +kernel⟩
theorem ok_ldue {f : Addr} {fd : FuncData} (F : Fun K "_law_due" "_law_due" sLDue f fd) (B : Bl mg) (C : Cc K mg cC) (L : Ld K mg lT lG hT hG) (FL : Fun K "_law_lacks" "_law_lacks" sLacks lL hL) (bL : Binds K hL ["chunks", "row", "stack", "variables"] []) (gL : mg "_law_lacks" = some (.ref lL))
    (FW : Fun K "_law_walk" "_law_walk" sLWalk lW hW) (bW : Binds K hW ["chunks", "chunk", "variables"] []) (gW : mg "_law_walk" = some (.ref lW))
    (FQ : Fun K "_law_queue" "_law_queue" sLQueue lQ hQ) (bQ : Binds K hQ ["chunks"] []) (gQ : mg "_law_queue" = some (.ref lQ)) : FnOk P w K mg base CX0 5 f fd ["chunks"] (spFlaws K cC) := by
  have GQ : FnOk P w K mg base CX0 4 lQ hQ ["chunks"] (spLQueue K cC) := ok_lqueue FQ B C L FL bL gL FW bW gW
  refine F.ok scLDue (fun vs H Q E h => ?_) (fun cdv A outer s H vs Q E hr h => ?_)
  · obtain ⟨c, as, cs, rfl, _⟩ := h
    rfl
  · obtain ⟨c, as, cs, rfl, hc, has, hN, h22, k⟩ := h
    have nd := scLDue.nd
    refine ⟨_, pss_cons (ps_set (i := 1) nd rfl (.inl rfl) (pe_lst pa_nil))
      (pss_cons (ps_set (i := 2) nd rfl (.inl rfl) (pe_lst pa_nil))
      (pss_cons (ps_for PassesOwn.never rfl (pi_list (pv 0)) (pg_name (i := 3) nd rfl (.inl rfl))
        (pss_cut (ps_if (pt_cmpR op_in_seq (pe_fld (pv 3) rfl) (pv 2) (by rfl))
          (pss_one (ps_expr (pe_bm PySem.F.plainAttrs_list PySem.F.slot_list_append PySem.F.type_list_append mt_append (pv 1) (pa_cons (pe_tup (pa_cons (pe_fld (pv 3) rfl) (pa_cons pe_int (pa_cons pe_str pa_nil)))) pa_nil)))) pss_nil)
        (pss_one (ps_expr (pe_bm PySem.F.plainAttrs_list PySem.F.slot_list_append PySem.F.type_list_append mt_append (pv 2) (pa_cons (pe_fld (pv 3) rfl) pa_nil))))))
      (pss_cons (ps_if (pt_cmpR op_notIn_seq pe_int (pv 2) (by rfl)) (pss_one (ps_ret (pe_op op_cat (pv 1) (pe_lst (pa_cons (pe_tup (pa_cons pe_int (pa_cons pe_int (pa_cons pe_str pa_nil)))) pa_nil))))) pss_nil)
      (pss_cons (ps_if (pt_cmpR op_ne (pe_fld (pe_ix ix_list (pe_lc (own := [("chunk", 3)]) (g := gName 3) (te := tVar 3) (by rfl) nd (pi_list (pv 0)) (blkOk_by (own := [("chunk", 3)]) (N := ["chunks", "flaws", "numbers", "chunk"]) (sc := defScope sLDue) (by decide +kernel))
            (fun _ _ _ _ _ => pg_name (i := 3) nd rfl (.inl rfl)) (tt := tTest (tOp rEq (tFld K (tVar 3) "number") (tC (.int 0)))) (fun _ _ _ _ _ => pts_one (pt_cmpR op_eq (pe_fld (pv 3) rfl) pe_int (nomark _))) (fun _ _ _ _ _ => pv 3)) pe_int (fun _ _ => rfl)) rfl) pe_int (nomark _))
          (pss_one (ps_ret (pe_op op_cat (pv 1) (pe_lst (pa_cons (pe_tup (pa_cons pe_int (pa_cons pe_int (pa_cons pe_str pa_nil)))) pa_nil))))) pss_nil)
      (pss_one (ps_ret (pe_op op_cat (pv 1) (pe_call GQ hr (by rfl) gQ FQ.kp bQ .nil pass0 (pa_cons (pv 0) pa_nil))))))))), ?_⟩
    refine ⟨Nat.zero_le _, fun fl nfl => ⟨Nat.zero_le _, fun nl nnl => ?_⟩⟩
    have s1 := same_upd (o := .lst []) nfl
    have s2 := same_upd (o := .lst []) nnl
    have nnl1 := sNew s1 nnl
    have nfn : fl ≠ nl := fun z => by rw [← z, upd_same] at nnl; cases nnl
    refine ⟨_, rfl, c, rfl, ⟨_, SqL.of ((s1.trans s2) _ _ hc)⟩, for_list (K := K) (a := c) (xs := as.map V.ref) (fun i σ H' => ∃ (y : Option V) (fs : List V) (out : List Fl), σ = [some (.ref c), some (.ref fl), some (.ref nl), y] ∧ Same H H' ∧
      H' nl = some (.lst ((cs.take i).map fun c => V.int (c.num : Nat))) ∧ H' fl = some (.lst fs) ∧ FlAt H' fs out ∧ out.length ≤ i ∧ dups [] cs = out ++ dups (cs.take i) (cs.drop i))
      ⟨none, [], [], rfl, s1.trans s2, upd_same, s2 _ _ upd_same, trivial, Nat.le_refl _, rfl⟩ (fun i σ H' _ ⟨_, _, _, _, s, _⟩ => SqL.of (s _ _ hc)) ?_ ?_⟩
    · rintro i v σ H1 hi ⟨y, fs, out, rfl, sH, hnl, hfl, hfs, hol, ed⟩
      obtain ⟨a, ch, rfl, hci, hca⟩ := has.get2 hi
      have hil : i < cs.length := (List.getElem?_eq_some_iff.mp hci).1
      have ed' : dups (cs.take i) (cs.drop i) = (if (fstC (cs.take i) ch.num).isSome = true then [(ch.num, 0, ("two functions have this number" : Str))] else []) ++ dups (cs.take (i + 1)) (cs.drop (i + 1)) := by
        rw [drop_cons hci, take_snoc hci]
        rfl
      obtain ⟨dx, rl, sl, qs, h1, h2, h3⟩ := id hca
      have h1' := sH _ _ h1
      let M : List (Option V) → Hp → Prop := fun σ' H' => ∃ (fs : List V) (out : List Fl), σ' = [some (.ref c), some (.ref fl), some (.ref nl), some (.ref a)] ∧ Same H H' ∧ H' nl = some (.lst ((cs.take i).map fun c => V.int (c.num : Nat))) ∧ H' fl = some (.lst fs) ∧ FlAt H' fs out ∧ out.length ≤ i + 1 ∧
        dups [] cs = out ++ dups (cs.take (i + 1)) (cs.drop (i + 1))
      refine ⟨M, ⟨_, rfl, a, cC, dx, _, _, rfl, h1', C.cl, C.n1, ch_num _ _ _, _, rfl, nl, _, rfl, .inl (SqL.of hnl), rfl, flat_nums, _, rfl, ?_⟩, ?_⟩
      · show if inV _ _ = true then _ else _
        rw [inV_nums]
        cases hf : (fstC (cs.take i) ch.num).isSome with
        | true =>
          refine iteT ⟨_, rfl, .inl ⟨rfl, _, SqL.of hfl⟩, _, rfl, a, cC, dx, _, _, rfl, h1', C.cl, C.n1, ch_num _ _ _, (by show 3 ≤ sizeLine; decide), fun t nt => ?_⟩
          have u1 := same_upd (o := .tup [.int ch.num, .int 0, .str "two functions have this number"]) nt
          have hf0 := hfs.len
          refine ⟨fl, _, _, rfl, rfl, u1 _ _ hfl, Nat.lt_of_le_of_lt (m := 401) (by omega) (by decide), ?_⟩
          have tu4 := tup_upd (o := .lst (fs ++ [.ref t])) (.inl ⟨_, u1 _ _ hfl⟩)
          refine ⟨fs ++ [.ref t], out ++ [(ch.num, 0, ("two functions have this number" : Str))], rfl, My.Same.put (sH.trans u1) nfl, ?_, upd_same, ?_, ?_, ?_⟩
          · rw [upd_ne (Ne.symm nfn)]
            exact u1 _ _ hnl
          · exact FlAt.app (vs' := [.ref t]) (cs' := [(ch.num, 0, ("two functions have this number" : Str))]) ⟨⟨t, rfl, tu4 _ _ upd_same⟩, trivial⟩ (hfs.imp fun b xs e => tu4 _ _ (u1 _ _ e))
          · rw [List.length_append, List.length_singleton]
            omega
          · rw [ed, ed', hf]
            simp
        | false =>
          refine iteF ⟨fs, out, rfl, sH, hnl, hfl, hfs, by omega, ?_⟩
          rw [ed, ed', hf]
          simp
      rintro σ' H2 ⟨fs, out, rfl, sH2, hnl2, hfl2, hfs2, hol2, ed2⟩
      refine ⟨_, rfl, .inl ⟨rfl, _, SqL.of hnl2⟩, _, rfl, a, cC, dx, _, _, rfl, sH2 _ _ h1, C.cl, C.n1, ch_num _ _ _, nl, _, _, rfl, rfl, hnl2, Nat.lt_of_le_of_lt (m := 401) (by rw [List.length_map, List.length_take]; omega) (by decide), ?_⟩
      have tu4 := tup_upd (o := .lst ((cs.take i).map (fun c => V.int (c.num : Nat)) ++ [.int ch.num])) (.inl ⟨_, hnl2⟩)
      refine ⟨_, fs, out, rfl, My.Same.put sH2 nnl1, ?_, ?_, hfs2.imp fun b xs e => tu4 _ _ e, hol2, ed2⟩
      · rw [upd_same, take_snoc hci, List.map_append]
        rfl
      · rw [upd_ne nfn]
        exact hfl2
    · rintro σ H1 ⟨y, fs, out, rfl, sH, hnl, hfl, hfs, hol, ed⟩
      rw [List.length_map, has.1] at hnl ed hol
      rw [List.take_length] at hnl
      have ed' : dups [] cs = out := by
        rw [ed, List.drop_length, List.take_length]
        simp [dups]
      have hf0 := hfs.len
      have app : ∀ (Hx : Hp) (m : Str), Same H Hx → Hx fl = some (.lst fs) → FlAt Hx fs out → lastF cs = [(0, 0, m)] → ∀ t b, Hx t = none → upd Hx t (.tup [.int 0, .int 0, .str m]) b = none → ∀ p, upd (upd Hx t (.tup [.int 0, .int 0, .str m])) b (.lst [.ref t]) p = none →
          Q (.ref p) (upd (upd (upd Hx t (.tup [.int 0, .int 0, .str m])) b (.lst [.ref t])) p (.lst (fs ++ [.ref t]))) := by
        intro Hx m sx hx hxs em t b nt nb p np
        have u1 := same_upd (o := .tup [.int 0, .int 0, .str m]) nt
        have u2 := same_upd (o := .lst [.ref t]) nb
        have u3 := same_upd (o := .lst (fs ++ [.ref t])) np
        refine k _ p _ (sx.trans (u1.trans (u2.trans u3))) (sNew sx (sNew u1 (sNew u2 np))) upd_same ?_
        unfold dueF
        rw [ed', em]
        exact FlAt.app (vs' := [.ref t]) (cs' := [(0, 0, m)]) ⟨⟨t, rfl, u3 _ _ (u2 _ _ upd_same)⟩, trivial⟩ (hxs.imp fun b xs e => u3 _ _ (u2 _ _ (u1 _ _ e)))
      refine ⟨_, rfl, nl, _, rfl, .inl (SqL.of hnl), rfl, flat_nums, _, rfl, ?_⟩
      show if (!inV (.int ((0 : Nat) : Int)) _) = true then _ else _
      rw [inV_nums]
      cases hf : fstC cs 0 with
      | none =>
        refine ifT rfl ⟨_, rfl, (by show 3 ≤ sizeLine; decide), fun t nt => ⟨(by show 1 ≤ sizeLine; decide), fun b nb => ⟨fl, b, _, _, rfl, rfl, (same_upd nb) _ _ ((same_upd nt) _ _ hfl), upd_same, Nat.le_trans (m := 401) (by rw [List.length_singleton]; omega) (by decide), fun p np => ?_⟩⟩⟩
        exact app H1 "no such function" sH hfl hfs (by unfold lastF; rw [hf]) t b nt nb p np
      | some c0 =>
        refine ifF rfl ?_
        refine ⟨_, rfl, c, rfl, ⟨_, SqL.of (sH _ _ hc)⟩, fun D nD => lc_it (walk_list (K := K) (a := c) (xs := as.map V.ref)) (fun j H' => ∃ acc : List V, H' D = some (.lst acc) ∧ acc.length ≤ j ∧ Same H1 H' ∧
            (match fstC (cs.take j) 0 with | none => acc = [] | some c0 => ∃ a0 r0, acc = V.ref a0 :: r0 ∧ ChAt K cC H a0 c0)) ⟨[], upd_same, Nat.le_refl _, same_upd nD, rfl⟩ (fun j H' _ ⟨_, _, _, s', _⟩ => SqL.of (s' _ _ (sH _ _ hc))) ?_ ?_⟩
        · rintro j z H3 H4 hj ⟨acc, e1, e2, s', e4⟩ ⟨rfl, hz⟩
          obtain ⟨a0, c0, rfl, hci, hca⟩ := has.get2 hz
          obtain ⟨dx, rl, sl, qs', h1, h2, h3⟩ := id (hca.same (sH.trans s'))
          refine ⟨rfl, _, rfl, a0, cC, dx, _, _, rfl, h1, C.cl, C.n1, ch_num _ _ _, rfl, _, rfl, ?_⟩
          by_cases cf : c0.num = 0
          · refine ifT (by simp [cf]) ⟨_, rfl, acc, e1, Nat.lt_of_le_of_lt (m := 401) (by rw [List.length_map, has.1] at hj; omega) (by decide), acc ++ [.ref a0], upd_same, by simp; omega, My.Same.put s' nD, ?_⟩
            rw [take_snoc hci, fst_snoc]
            cases hf : fstC (cs.take j) 0 with
            | none =>
              rw [hf] at e4
              have e4' : acc = [] := e4
              simp only [if_pos cf]
              exact ⟨a0, [], by rw [e4']; rfl, hca⟩
            | some c1 =>
              rw [hf] at e4
              obtain ⟨a1, r1, ex, hc1⟩ := e4
              exact ⟨a1, r1 ++ [.ref a0], by rw [ex]; rfl, hc1⟩
          · refine ifF (by simp; omega) ⟨acc, e1, by omega, s', ?_⟩
            rw [take_snoc hci, fst_snoc]
            cases hf : fstC (cs.take j) 0 with
            | none =>
              rw [hf] at e4
              simp only [if_neg cf]
              exact e4
            | some c1 =>
              rw [hf] at e4
              exact e4
        · rintro H3 ⟨acc, e1, e2, s', e4⟩
          rw [List.length_map, has.1, List.take_length, hf] at e4
          obtain ⟨a0, r0, rfl, hca⟩ := e4
          have sH3 := sH.trans s'
          obtain ⟨dx, rl, sl, qs', h1, h2, h3⟩ := id (hca.same sH3)
          have hfl3 := s' _ _ hfl
          have hfs3 := hfs.imp fun b xs e => s' _ _ e
          refine ⟨D, _, _, _, rfl, rfl, SqL.of e1, atI_nat (j := 0) rfl, a0, cC, dx, _, _, rfl, h1, C.cl, C.n2, ch_want _ _ _, rfl, _, rfl, ?_⟩
          by_cases hw : c0.want = 0
          · refine ifF (by simp [hw]) ?_
            refine ⟨_, rfl, _, rfl, c, as, cs, rfl, sH3 _ _ hc, has.imp (fun a c h => h.same sH3), by rw [hf]; rfl, by omega, h22, fun H4 p fs2 s4 np hp hfs2 => ?_⟩
            have hf2 := hfs2.len
            have hql : (queueF cs 400 [(0, 0)] []).length ≤ 400 := queueF_len
            refine ⟨fl, p, _, _, rfl, rfl, s4 _ _ hfl3, hp, Nat.le_trans (m := 1000) (by omega) (by decide), fun r nr => ?_⟩
            have u1 := same_upd (o := .lst (fs ++ fs2)) nr
            refine k _ r _ (sH3.trans (s4.trans u1)) (sNew sH3 (sNew s4 nr)) upd_same ?_
            unfold dueF lastF
            rw [ed', hf]
            simp only [if_pos hw]
            exact FlAt.app (hfs2.imp fun b xs e => u1 _ _ e) (hfs3.imp fun b xs e => u1 _ _ (s4 _ _ e))
          · refine ifT (by simp; omega) ⟨_, rfl, (by show 3 ≤ sizeLine; decide), fun t nt => ⟨(by show 1 ≤ sizeLine; decide), fun b nb => ⟨fl, b, _, _, rfl, rfl, (same_upd nb) _ _ ((same_upd nt) _ _ hfl3), upd_same, Nat.le_trans (m := 401) (by rw [List.length_singleton]; omega) (by decide), fun p np => ?_⟩⟩⟩
            exact app H3 "another number of parameters" sH3 hfl3 hfs3 (by unfold lastF; rw [hf]; simp only [if_neg hw]) t b nt nb p np
end
end My
namespace My
open PySem L2 SX
open C8 (pss_cut tCut cutS_slice pe_gc)
theorem nox_of {X : Cx} {b : List Stmt} {D : Ends} {σ : L2.St} {H : Hp} (h : ∃ t, PSs X.nox b t ∧ t D σ H) : ∃ t, PSs X b t ∧ t D σ H :=
  let ⟨t, h1, h2⟩ := h
  ⟨t, h1.nox, h2⟩
section
variable {P : Program} {w : World} {K : PySem.W.Frag} {mg : Str → Option Value} {base : Heap} {cC oE : Addr}
abbrev sIC : Stmt := inClass (top 19) 0
theorem scIC : FnScope ["self", "number", "wanted", "rows", "scopes"] ["self", "number", "wanted", "rows", "scopes"] (defScope sIC) := ⟨rfl, rfl, rfl, by decide +kernel, rfl, by decide +kernel, by decide +kernel⟩
def spIC (K : PySem.W.Frag) (cC : Addr) : Sp := fun vs H Q _ => ∃ (a dx l e : Addr) (n wt : Nat) (xs : List V) (rows : List Row), vs = [.ref a, .int n, .int wt, .ref l, .ref e] ∧ H a = some (.ins cC dx []) ∧ H l = some (.lst xs) ∧ SqT K H e [] ∧
  ∀ H' rl sl, Keep a H H' → H' a = some (.ins cC dx (chF ⟨n, wt, rows⟩ rl sl)) → H' rl = some (.lst xs) → H rl = none → Q .non H'
theorem ok_IC {f : Addr} {fd : FuncData} (F : FunD K "__init__" "Chunk.__init__" (defArgs sIC) (defBody sIC) (defScope sIC) [.ref oE] [] f fd) (B : Bl mg) (C : Cc K mg cC) : FnOk P w K mg base CX0 1 f fd ["self", "number", "wanted", "rows", "scopes"] (spIC K cC) := by
  refine F.ok scIC (fun vs H Q E h => ?_) (fun cdv A outer s H vs Q E hr h => ?_)
  · obtain ⟨a, dx, l, e, n, wt, xs, rows, rfl, _⟩ := h
    rfl
  · obtain ⟨a, dx, l, e, n, wt, xs, rows, rfl, ha, hl, he, q⟩ := h
    refine nox_of ?_
    refine ⟨_, pss_cons (ps_fld (pv 0) (pv 1) rfl) (pss_cons (ps_fld (pv 0) (pv 2) rfl) (pss_cons (ps_fld (pv 0) (pe_callTy call_list_of (by rfl) B.list (by decide +kernel) (pa_cons (pv 3) pa_nil)) rfl)
      (pss_one (ps_fld (pv 0) (pe_callTy call_list_of (by rfl) B.list (by decide +kernel) (pa_cons (pv 4) pa_nil)) rfl)))), ?_⟩
    have nla : l ≠ a := fun z => by rw [z, ha] at hl; cases hl
    refine ⟨_, rfl, _, rfl, a, cC, dx, [], rfl, ha, C.cl, C.n1, (by show 0 < 1000; decide), ?_⟩
    refine ⟨_, rfl, _, rfl, a, cC, dx, _, rfl, upd_same, C.cl, C.n2, (by show 1 < 1000; decide), ?_⟩
    refine ⟨_, rfl, l, xs, rfl, .inl (SqL.of (by rw [upd_ne nla, upd_ne nla]; exact hl)), fun m hm => ?_⟩
    have nma : m ≠ a := fun z => by rw [z, upd_same] at hm; cases hm
    refine ⟨_, rfl, a, cC, dx, _, rfl, (by rw [upd_ne (Ne.symm nma)]; exact upd_same), C.cl, C.n3, (by show 2 < 1000; decide), ?_⟩
    have hmH : H m = none := by rw [upd_ne nma, upd_ne nma] at hm; exact hm
    refine ⟨_, rfl, e, [], rfl, .inr ?_, fun m2 hm2 => ?_⟩
    · have ins : ∀ {Hx : Hp} {o : HO} {fs : List (Str × V)}, SqT K Hx e [] → Hx a = some (.ins cC dx fs) → SqT K (upd Hx a o) e [] := fun {Hx o fs} h hx => by
        rcases h with (h | ⟨ob, h⟩) | h
        · exact .inl (.inl (by rw [upd_ne fun z => by rw [z, hx] at h; cases h]; exact h))
        · exact .inl (.inr ⟨ob, by rw [upd_ne fun z => by rw [z, hx] at h; cases h]; exact h⟩)
        · exact .inr h
      exact ins (sqt_upd (ins (ins he ha) upd_same) (.inr (.inr hm))) (by rw [upd_ne (Ne.symm nma)]; exact upd_same)
    · have nm2a : m2 ≠ a := fun z => by rw [z, upd_same] at hm2; cases hm2
      have nm2m : m2 ≠ m := fun z => by rw [z, upd_ne nma, upd_same] at hm2; cases hm2
      have hm2H : H m2 = none := by rw [upd_ne nm2a, upd_ne nm2m, upd_ne nm2a, upd_ne nm2a] at hm2; exact hm2
      refine ⟨_, rfl, a, cC, dx, _, rfl, (by rw [upd_ne (Ne.symm nm2a)]; exact upd_same), C.cl, C.n4, (by show 3 < 1000; decide), ?_⟩
      refine q _ m m2 (fun b o eb nb => ?_) upd_same ?_ ?_
      · rw [upd_ne nb, upd_ne (fun z => by rw [z, hm2H] at eb; cases eb), upd_ne nb, upd_ne (fun z => by rw [z, hmH] at eb; cases eb), upd_ne nb, upd_ne nb]
        exact eb
      · rw [upd_ne nma, upd_ne (Ne.symm nm2m), upd_ne nma, upd_same]
      · exact hmH
end
end My
namespace My
open PySem L2 SX
open C8 (pss_cut tCut cutS_slice pe_gc)
/-- where the draws stand -/
structure Lx (K : PySem.W.Frag) (mg : Str → Option Value) (lC lB lD : Addr) (hC hB hD : FuncData) : Prop where
  fC : Fun K "_law_cell" "_law_cell" sCell lC hC
  bC : Binds K hC ["script", "k"] []
  gC : mg "_law_cell" = some (.ref lC)
  fB : Fun K "_law_begin" "_law_begin" sBegin lB hB
  bB : Binds K hB ["script", "k"] []
  gB : mg "_law_begin" = some (.ref lB)
  fD : Fun K "_law_draw" "_law_draw" sDraw lD hD
  bD : Binds K hD ["state", "many"] []
  gD : mg "_law_draw" = some (.ref lD)
theorem row_keep {K : PySem.W.Frag} {H H' : Hp} {a p t : Addr} {ns : List Int} {xs : List V} (st : StL K H a p ns) (k : Keep p H H') (h : SqT K H t xs) : SqT K H' t xs := by
  obtain ⟨x, kk, hp, _, _⟩ := st
  exact sqt_keep k hp h
theorem new_row {K : PySem.W.Frag} {H : Hp} {t : Addr} {xs : List V} (n : H t = none) : SqT K (upd H t (.tup xs)) t xs := .inl (.inl upd_same)
section
variable {P : Program} {w : World} {K : PySem.W.Frag} {mg : Str → Option Value} {base : Heap} {lC lB lD lP : Addr} {hC hB hD hP : FuncData}
abbrev sLRow : Stmt := top 28
theorem scLRow : FnScope ["state", "many", "kind"] ["state", "many"] (defScope sLRow) := ⟨rfl, rfl, rfl, by decide +kernel, rfl, by decide +kernel, by decide +kernel⟩
def spLRow (K : PySem.W.Frag) : Sp := fun vs H Q _ => ∃ (a p : Addr) (ns : List Int) (many : Nat), vs = [.ref p, .int many] ∧ StL K H a p ns ∧ 0 < many ∧ many ≤ 10 ∧ ∀ H' t (r : Row), Keep p H H' → StL K H' a p ns → SqT K H' t r.vs → Q (.ref t) H'
theorem ok_lrow {f : Addr} {fd : FuncData} (F : Fun K "_law_row" "_law_row" sLRow f fd) (B : Bl mg) (L : Lx K mg lC lB lD hC hB hD) (FP : Fun K "_law_pick" "_law_pick" sPick lP hP) (bP : Binds K hP ["state", "row"] []) (gP : mg "_law_pick" = some (.ref lP)) : FnOk P w K mg base CX0 4 f fd ["state", "many"] (spLRow K) := by
  have GD : FnOk P w K mg base CX0 2 lD hD ["state", "many"] (spDraw K) := ok_draw L.fD B L.fC L.bC L.gC
  have GP : FnOk P w K mg base CX0 3 lP hP ["state", "row"] (spPick K) := ok_pick FP B L.fC L.bC L.gC L.fD L.bD L.gD
  refine F.ok scLRow (fun vs H Q E h => ?_) (fun cdv A outer s H vs Q E hr h => ?_)
  · obtain ⟨a, p, ns, many, rfl, _⟩ := h
    rfl
  · obtain ⟨a, p, ns, many, rfl, st0, hm0, hm1, q⟩ := h
    have nd := scLRow.nd
    have h3 : Room 3 _ := hr.mono (by decide)
    have h2 : Room 2 _ := hr.mono (by decide)
    refine ⟨_, pss_cons (ps_set (i := 2) nd rfl (.inl rfl) (pe_call GD h2 (by rfl) L.gD L.fD.kp L.bD .nil pass0 (pa_cons (pv 0) (pa_cons pe_int pa_nil))))
      (pss_cons (ps_if (pt_cmpR op_lt (pv 2) pe_int (nomark _)) (pss_one (ps_ret (pe_call GP h3 (by rfl) gP FP.kp bP .nil pass0 (pa_cons (pv 0) (pa_cons (pe_tup (pa_cons (pe_tup (pa_cons pe_str (pa_cons pe_int pa_nil))) (pa_cons (pe_tup (pa_cons pe_str (pa_cons pe_str pa_nil))) (pa_cons (pe_tup (pa_cons pe_str pa_nil)) (pa_cons (pe_tup (pa_cons pe_str pa_nil)) pa_nil))))) pa_nil))))) pss_nil)
      (pss_cons (ps_if (pt_cmpR op_eq (pv 2) pe_int (nomark _)) (pss_one (ps_ret (pe_call GP h3 (by rfl) gP FP.kp bP .nil pass0 (pa_cons (pv 0) (pa_cons (pe_tup (pa_cons (pe_tup (pa_cons pe_str (pa_cons (pe_call GD h2 (by rfl) L.gD L.fD.kp L.bD .nil pass0 (pa_cons (pv 0) (pa_cons pe_int pa_nil))) pa_nil))) (pa_cons (pe_tup (pa_cons pe_str (pa_cons (pe_call GD h2 (by rfl) L.gD L.fD.kp L.bD .nil pass0 (pa_cons (pv 0) (pa_cons pe_int pa_nil))) pa_nil))) (pa_cons (pe_tup (pa_cons pe_str (pa_cons (pe_call GD h2 (by rfl) L.gD L.fD.kp L.bD .nil pass0 (pa_cons (pv 0) (pa_cons pe_int pa_nil))) pa_nil))) pa_nil)))) pa_nil))))) pss_nil)
      (pss_cons (ps_if (pt_cmpR op_eq (pv 2) pe_int (nomark _)) (pss_one (ps_ret (pe_call GP h3 (by rfl) gP FP.kp bP .nil pass0 (pa_cons (pv 0) (pa_cons (pe_tup (pa_cons (pe_tup (pa_cons pe_str pa_nil)) (pa_cons (pe_tup (pa_cons pe_str (pa_cons pe_int pa_nil))) (pa_cons (pe_tup (pa_cons pe_str (pa_cons pe_int pa_nil))) (pa_cons (pe_tup (pa_cons pe_str (pa_cons pe_int pa_nil))) (pa_cons (pe_tup (pa_cons pe_str (pa_cons pe_int pa_nil))) pa_nil)))))) pa_nil))))) pss_nil)
      (pss_cons (ps_if (pt_cmpR op_eq (pv 2) pe_int (nomark _)) (pss_one (ps_ret (pe_call GP h3 (by rfl) gP FP.kp bP .nil pass0 (pa_cons (pv 0) (pa_cons (pe_tup (pa_cons (pe_tup (pa_cons pe_str (pa_cons (pe_call GD h2 (by rfl) L.gD L.fD.kp L.bD .nil pass0 (pa_cons (pv 0) (pa_cons pe_int pa_nil))) pa_nil))) (pa_cons (pe_tup (pa_cons pe_str (pa_cons (pe_call GD h2 (by rfl) L.gD L.fD.kp L.bD .nil pass0 (pa_cons (pv 0) (pa_cons pe_int pa_nil))) (pa_cons pe_int pa_nil)))) pa_nil))) pa_nil))))) pss_nil)
      (pss_cons (ps_if (pt_cmpR op_eq (pv 2) pe_int (nomark _)) (pss_one (ps_ret (pe_call GP h3 (by rfl) gP FP.kp bP .nil pass0 (pa_cons (pv 0) (pa_cons (pe_tup (pa_cons (pe_tup (pa_cons pe_str (pa_cons (pe_call GD h2 (by rfl) L.gD L.fD.kp L.bD .nil pass0 (pa_cons (pv 0) (pa_cons pe_int pa_nil))) (pa_cons pe_int pa_nil)))) (pa_cons (pe_tup (pa_cons pe_str (pa_cons pe_str (pa_cons (pe_call GD h2 (by rfl) L.gD L.fD.kp L.bD .nil pass0 (pa_cons (pv 0) (pa_cons pe_int pa_nil))) (pa_cons pe_int pa_nil))))) (pa_cons (pe_tup (pa_cons pe_str (pa_cons pe_str (pa_cons pe_int (pa_cons pe_int pa_nil))))) pa_nil)))) pa_nil))))) pss_nil)
      (pss_cons (ps_if (pt_cmpR op_eq (pv 2) pe_int (nomark _)) (pss_one (ps_ret (pe_call GP h3 (by rfl) gP FP.kp bP .nil pass0 (pa_cons (pv 0) (pa_cons (pe_tup (pa_cons (pe_tup (pa_cons pe_str (pa_cons pe_str (pa_cons pe_int pa_nil)))) (pa_cons (pe_tup (pa_cons pe_str (pa_cons pe_str pa_nil))) (pa_cons (pe_tup (pa_cons pe_str (pa_cons pe_int pa_nil))) (pa_cons (pe_tup (pa_cons pe_str (pa_cons pe_str (pa_cons pe_int pa_nil)))) (pa_cons (pe_tup (pa_cons pe_str (pa_cons pe_str (pa_cons pe_int pa_nil)))) pa_nil)))))) pa_nil))))) pss_nil)
      (pss_cons (ps_if (pt_cmpR op_eq (pv 2) pe_int (nomark _)) (pss_one (ps_ret (pe_call GP h3 (by rfl) gP FP.kp bP .nil pass0 (pa_cons (pv 0) (pa_cons (pe_tup (pa_cons (pe_tup (pa_cons pe_str pa_nil)) (pa_cons (pe_tup (pa_cons pe_str pa_nil)) (pa_cons (pe_tup (pa_cons pe_str (pa_cons pe_int pa_nil))) (pa_cons (pe_tup (pa_cons pe_str (pa_cons pe_non pa_nil))) pa_nil))))) pa_nil))))) pss_nil)
      (pss_one (ps_ret (pe_tup (pa_cons pe_str (pa_cons (pe_call GD h2 (by rfl) L.gD L.fD.kp L.bD .nil pass0 (pa_cons (pv 0) (pa_cons (pe_op op_add (pv 1) pe_int) pa_nil))) (pa_cons (pe_call GD h2 (by rfl) L.gD L.fD.kp L.bD .nil pass0 (pa_cons (pv 0) (pa_cons pe_int pa_nil))) pa_nil))))))))))))), ?_⟩
    refine ⟨_, rfl, a, p, ns, 12, rfl, st0, by decide, by decide, fun H0 kd k0 st1 kl kh => ?_⟩
    refine ⟨_, rfl, _, _, rfl, rfl, _, rfl, ite_or (fun _ => ?_) (fun _ => ?_)⟩
    · refine ⟨_, rfl, ?_⟩
      have k := k0
      have st := st1
      refine ⟨(by show 2 ≤ sizeLine; decide), fun t1 n1 => ?_⟩
      have z1 := same_upd (o := .tup (Row.const (.int 1)).vs) n1
      have e1 := new_row (K := K) (xs := (Row.const (.int 1)).vs) n1
      have k := k.trans (My.Same.keep z1)
      have st := st.same z1
      refine ⟨(by show 2 ≤ sizeLine; decide), fun t2 n2 => ?_⟩
      have z2 := same_upd (o := .tup (Row.const (.str "a")).vs) n2
      have e1 := same_sqt z2 e1
      have e2 := new_row (K := K) (xs := (Row.const (.str "a")).vs) n2
      have k := k.trans (My.Same.keep z2)
      have st := st.same z2
      refine ⟨(by show 1 ≤ sizeLine; decide), fun t3 n3 => ?_⟩
      have z3 := same_upd (o := .tup (Row.declare).vs) n3
      have e1 := same_sqt z3 e1
      have e2 := same_sqt z3 e2
      have e3 := new_row (K := K) (xs := (Row.declare).vs) n3
      have k := k.trans (My.Same.keep z3)
      have st := st.same z3
      refine ⟨(by show 1 ≤ sizeLine; decide), fun t4 n4 => ?_⟩
      have z4 := same_upd (o := .tup (Row.blank).vs) n4
      have e1 := same_sqt z4 e1
      have e2 := same_sqt z4 e2
      have e3 := same_sqt z4 e3
      have e4 := new_row (K := K) (xs := (Row.blank).vs) n4
      have k := k.trans (My.Same.keep z4)
      have st := st.same z4
      refine ⟨(by show 4 ≤ sizeLine; decide), fun T nT => ?_⟩
      have zT := same_upd (o := .tup [.ref t1, .ref t2, .ref t3, .ref t4]) nT
      refine ⟨a, p, T, ns, [.ref t1, .ref t2, .ref t3, .ref t4], rfl, st.same zT, .inl (.inl upd_same), (by show 0 < 4; decide), (by show 4 ≤ 100; decide), fun H9 v hv k9 st9 => ?_⟩
      have k := (k.trans (My.Same.keep zT)).trans k9
      simp only [List.mem_cons, List.not_mem_nil, or_false] at hv
      rcases hv with rfl | rfl | rfl | rfl
      · exact q H9 _ (Row.const (.int 1)) k st9 (row_keep (st.same zT) k9 (same_sqt zT e1))
      · exact q H9 _ (Row.const (.str "a")) k st9 (row_keep (st.same zT) k9 (same_sqt zT e2))
      · exact q H9 _ (Row.declare) k st9 (row_keep (st.same zT) k9 (same_sqt zT e3))
      · exact q H9 _ (Row.blank) k st9 (row_keep (st.same zT) k9 (same_sqt zT e4))
    refine ⟨_, rfl, rfl, _, rfl, ite_or (fun _ => ?_) (fun _ => ?_)⟩
    · refine ⟨_, rfl, ?_⟩
      have k := k0
      have st := st1
      refine ⟨_, rfl, a, p, ns, 4, rfl, st, by decide, by decide, fun G1 x1 g1 st1' l1 u1 => ?_⟩
      obtain ⟨m1, rfl⟩ : ∃ m : Nat, x1 = m := ⟨x1.toNat, by omega⟩
      have k := k.trans g1
      have st := st1'
      refine ⟨(by show 2 ≤ sizeLine; decide), fun t1 n1 => ?_⟩
      have z1 := same_upd (o := .tup (Row.load m1).vs) n1
      have e1 := new_row (K := K) (xs := (Row.load m1).vs) n1
      have k := k.trans (My.Same.keep z1)
      have st := st.same z1
      refine ⟨_, rfl, a, p, ns, 4, rfl, st, by decide, by decide, fun G2 x2 g2 st2' l2 u2 => ?_⟩
      obtain ⟨m2, rfl⟩ : ∃ m : Nat, x2 = m := ⟨x2.toNat, by omega⟩
      have e1 := row_keep st g2 e1
      have k := k.trans g2
      have st := st2'
      refine ⟨(by show 2 ≤ sizeLine; decide), fun t2 n2 => ?_⟩
      have z2 := same_upd (o := .tup (Row.save m2).vs) n2
      have e1 := same_sqt z2 e1
      have e2 := new_row (K := K) (xs := (Row.save m2).vs) n2
      have k := k.trans (My.Same.keep z2)
      have st := st.same z2
      refine ⟨_, rfl, a, p, ns, 3, rfl, st, by decide, by decide, fun G3 x3 g3 st3' l3 u3 => ?_⟩
      obtain ⟨m3, rfl⟩ : ∃ m : Nat, x3 = m := ⟨x3.toNat, by omega⟩
      have e1 := row_keep st g3 e1
      have e2 := row_keep st g3 e2
      have k := k.trans g3
      have st := st3'
      refine ⟨(by show 2 ≤ sizeLine; decide), fun t3 n3 => ?_⟩
      have z3 := same_upd (o := .tup (Row.drop m3).vs) n3
      have e1 := same_sqt z3 e1
      have e2 := same_sqt z3 e2
      have e3 := new_row (K := K) (xs := (Row.drop m3).vs) n3
      have k := k.trans (My.Same.keep z3)
      have st := st.same z3
      refine ⟨(by show 3 ≤ sizeLine; decide), fun T nT => ?_⟩
      have zT := same_upd (o := .tup [.ref t1, .ref t2, .ref t3]) nT
      refine ⟨a, p, T, ns, [.ref t1, .ref t2, .ref t3], rfl, st.same zT, .inl (.inl upd_same), (by show 0 < 3; decide), (by show 3 ≤ 100; decide), fun H9 v hv k9 st9 => ?_⟩
      have k := (k.trans (My.Same.keep zT)).trans k9
      simp only [List.mem_cons, List.not_mem_nil, or_false] at hv
      rcases hv with rfl | rfl | rfl
      · exact q H9 _ (Row.load m1) k st9 (row_keep (st.same zT) k9 (same_sqt zT e1))
      · exact q H9 _ (Row.save m2) k st9 (row_keep (st.same zT) k9 (same_sqt zT e2))
      · exact q H9 _ (Row.drop m3) k st9 (row_keep (st.same zT) k9 (same_sqt zT e3))
    refine ⟨_, rfl, rfl, _, rfl, ite_or (fun _ => ?_) (fun _ => ?_)⟩
    · refine ⟨_, rfl, ?_⟩
      have k := k0
      have st := st1
      refine ⟨(by show 1 ≤ sizeLine; decide), fun t1 n1 => ?_⟩
      have z1 := same_upd (o := .tup (Row.pop).vs) n1
      have e1 := new_row (K := K) (xs := (Row.pop).vs) n1
      have k := k.trans (My.Same.keep z1)
      have st := st.same z1
      refine ⟨(by show 2 ≤ sizeLine; decide), fun t2 n2 => ?_⟩
      have z2 := same_upd (o := .tup (Row.notO).vs) n2
      have e1 := same_sqt z2 e1
      have e2 := new_row (K := K) (xs := (Row.notO).vs) n2
      have k := k.trans (My.Same.keep z2)
      have st := st.same z2
      refine ⟨(by show 2 ≤ sizeLine; decide), fun t3 n3 => ?_⟩
      have z3 := same_upd (o := .tup (Row.add).vs) n3
      have e1 := same_sqt z3 e1
      have e2 := same_sqt z3 e2
      have e3 := new_row (K := K) (xs := (Row.add).vs) n3
      have k := k.trans (My.Same.keep z3)
      have st := st.same z3
      refine ⟨(by show 2 ≤ sizeLine; decide), fun t4 n4 => ?_⟩
      have z4 := same_upd (o := .tup (Row.item).vs) n4
      have e1 := same_sqt z4 e1
      have e2 := same_sqt z4 e2
      have e3 := same_sqt z4 e3
      have e4 := new_row (K := K) (xs := (Row.item).vs) n4
      have k := k.trans (My.Same.keep z4)
      have st := st.same z4
      refine ⟨(by show 2 ≤ sizeLine; decide), fun t5 n5 => ?_⟩
      have z5 := same_upd (o := .tup (Row.setItem).vs) n5
      have e1 := same_sqt z5 e1
      have e2 := same_sqt z5 e2
      have e3 := same_sqt z5 e3
      have e4 := same_sqt z5 e4
      have e5 := new_row (K := K) (xs := (Row.setItem).vs) n5
      have k := k.trans (My.Same.keep z5)
      have st := st.same z5
      refine ⟨(by show 5 ≤ sizeLine; decide), fun T nT => ?_⟩
      have zT := same_upd (o := .tup [.ref t1, .ref t2, .ref t3, .ref t4, .ref t5]) nT
      refine ⟨a, p, T, ns, [.ref t1, .ref t2, .ref t3, .ref t4, .ref t5], rfl, st.same zT, .inl (.inl upd_same), (by show 0 < 5; decide), (by show 5 ≤ 100; decide), fun H9 v hv k9 st9 => ?_⟩
      have k := (k.trans (My.Same.keep zT)).trans k9
      simp only [List.mem_cons, List.not_mem_nil, or_false] at hv
      rcases hv with rfl | rfl | rfl | rfl | rfl
      · exact q H9 _ (Row.pop) k st9 (row_keep (st.same zT) k9 (same_sqt zT e1))
      · exact q H9 _ (Row.notO) k st9 (row_keep (st.same zT) k9 (same_sqt zT e2))
      · exact q H9 _ (Row.add) k st9 (row_keep (st.same zT) k9 (same_sqt zT e3))
      · exact q H9 _ (Row.item) k st9 (row_keep (st.same zT) k9 (same_sqt zT e4))
      · exact q H9 _ (Row.setItem) k st9 (row_keep (st.same zT) k9 (same_sqt zT e5))
    refine ⟨_, rfl, rfl, _, rfl, ite_or (fun _ => ?_) (fun _ => ?_)⟩
    · refine ⟨_, rfl, ?_⟩
      have k := k0
      have st := st1
      refine ⟨_, rfl, a, p, ns, 4, rfl, st, by decide, by decide, fun G1 x1 g1 st1' l1 u1 => ?_⟩
      obtain ⟨m1, rfl⟩ : ∃ m : Nat, x1 = m := ⟨x1.toNat, by omega⟩
      have k := k.trans g1
      have st := st1'
      refine ⟨(by show 2 ≤ sizeLine; decide), fun t1 n1 => ?_⟩
      have z1 := same_upd (o := .tup (Row.list m1).vs) n1
      have e1 := new_row (K := K) (xs := (Row.list m1).vs) n1
      have k := k.trans (My.Same.keep z1)
      have st := st.same z1
      refine ⟨_, rfl, a, p, ns, 5, rfl, st, by decide, by decide, fun G2 x2 g2 st2' l2 u2 => ?_⟩
      obtain ⟨m2, rfl⟩ : ∃ m : Nat, x2 = m := ⟨x2.toNat, by omega⟩
      have e1 := row_keep st g2 e1
      have k := k.trans g2
      have st := st2'
      refine ⟨(by show 3 ≤ sizeLine; decide), fun t2 n2 => ?_⟩
      have z2 := same_upd (o := .tup (Row.map m2).vs) n2
      have e1 := same_sqt z2 e1
      have e2 := new_row (K := K) (xs := (Row.map m2).vs) n2
      have k := k.trans (My.Same.keep z2)
      have st := st.same z2
      refine ⟨(by show 2 ≤ sizeLine; decide), fun T nT => ?_⟩
      have zT := same_upd (o := .tup [.ref t1, .ref t2]) nT
      refine ⟨a, p, T, ns, [.ref t1, .ref t2], rfl, st.same zT, .inl (.inl upd_same), (by show 0 < 2; decide), (by show 2 ≤ 100; decide), fun H9 v hv k9 st9 => ?_⟩
      have k := (k.trans (My.Same.keep zT)).trans k9
      simp only [List.mem_cons, List.not_mem_nil, or_false] at hv
      rcases hv with rfl | rfl
      · exact q H9 _ (Row.list m1) k st9 (row_keep (st.same zT) k9 (same_sqt zT e1))
      · exact q H9 _ (Row.map m2) k st9 (row_keep (st.same zT) k9 (same_sqt zT e2))
    refine ⟨_, rfl, rfl, _, rfl, ite_or (fun _ => ?_) (fun _ => ?_)⟩
    · refine ⟨_, rfl, ?_⟩
      have k := k0
      have st := st1
      refine ⟨_, rfl, a, p, ns, 3, rfl, st, by decide, by decide, fun G1 x1 g1 st1' l1 u1 => ?_⟩
      obtain ⟨m1, rfl⟩ : ∃ m : Nat, x1 = m := ⟨x1.toNat, by omega⟩
      have k := k.trans g1
      have st := st1'
      refine ⟨(by show 3 ≤ sizeLine; decide), fun t1 n1 => ?_⟩
      have z1 := same_upd (o := .tup (Row.call m1).vs) n1
      have e1 := new_row (K := K) (xs := (Row.call m1).vs) n1
      have k := k.trans (My.Same.keep z1)
      have st := st.same z1
      refine ⟨_, rfl, a, p, ns, 3, rfl, st, by decide, by decide, fun G2 x2 g2 st2' l2 u2 => ?_⟩
      obtain ⟨m2, rfl⟩ : ∃ m : Nat, x2 = m := ⟨x2.toNat, by omega⟩
      have e1 := row_keep st g2 e1
      have k := k.trans g2
      have st := st2'
      refine ⟨(by show 4 ≤ sizeLine; decide), fun t2 n2 => ?_⟩
      have z2 := same_upd (o := .tup (Row.invoke m2).vs) n2
      have e1 := same_sqt z2 e1
      have e2 := new_row (K := K) (xs := (Row.invoke m2).vs) n2
      have k := k.trans (My.Same.keep z2)
      have st := st.same z2
      refine ⟨(by show 4 ≤ sizeLine; decide), fun t3 n3 => ?_⟩
      have z3 := same_upd (o := .tup (Row.sup).vs) n3
      have e1 := same_sqt z3 e1
      have e2 := same_sqt z3 e2
      have e3 := new_row (K := K) (xs := (Row.sup).vs) n3
      have k := k.trans (My.Same.keep z3)
      have st := st.same z3
      refine ⟨(by show 3 ≤ sizeLine; decide), fun T nT => ?_⟩
      have zT := same_upd (o := .tup [.ref t1, .ref t2, .ref t3]) nT
      refine ⟨a, p, T, ns, [.ref t1, .ref t2, .ref t3], rfl, st.same zT, .inl (.inl upd_same), (by show 0 < 3; decide), (by show 3 ≤ 100; decide), fun H9 v hv k9 st9 => ?_⟩
      have k := (k.trans (My.Same.keep zT)).trans k9
      simp only [List.mem_cons, List.not_mem_nil, or_false] at hv
      rcases hv with rfl | rfl | rfl
      · exact q H9 _ (Row.call m1) k st9 (row_keep (st.same zT) k9 (same_sqt zT e1))
      · exact q H9 _ (Row.invoke m2) k st9 (row_keep (st.same zT) k9 (same_sqt zT e2))
      · exact q H9 _ (Row.sup) k st9 (row_keep (st.same zT) k9 (same_sqt zT e3))
    refine ⟨_, rfl, rfl, _, rfl, ite_or (fun _ => ?_) (fun _ => ?_)⟩
    · refine ⟨_, rfl, ?_⟩
      have k := k0
      have st := st1
      refine ⟨(by show 3 ≤ sizeLine; decide), fun t1 n1 => ?_⟩
      have z1 := same_upd (o := .tup (Row.klass).vs) n1
      have e1 := new_row (K := K) (xs := (Row.klass).vs) n1
      have k := k.trans (My.Same.keep z1)
      have st := st.same z1
      refine ⟨(by show 2 ≤ sizeLine; decide), fun t2 n2 => ?_⟩
      have z2 := same_upd (o := .tup (Row.method).vs) n2
      have e1 := same_sqt z2 e1
      have e2 := new_row (K := K) (xs := (Row.method).vs) n2
      have k := k.trans (My.Same.keep z2)
      have st := st.same z2
      refine ⟨(by show 2 ≤ sizeLine; decide), fun t3 n3 => ?_⟩
      have z3 := same_upd (o := .tup (Row.iter).vs) n3
      have e1 := same_sqt z3 e1
      have e2 := same_sqt z3 e2
      have e3 := new_row (K := K) (xs := (Row.iter).vs) n3
      have k := k.trans (My.Same.keep z3)
      have st := st.same z3
      refine ⟨(by show 3 ≤ sizeLine; decide), fun t4 n4 => ?_⟩
      have z4 := same_upd (o := .tup (Row.field).vs) n4
      have e1 := same_sqt z4 e1
      have e2 := same_sqt z4 e2
      have e3 := same_sqt z4 e3
      have e4 := new_row (K := K) (xs := (Row.field).vs) n4
      have k := k.trans (My.Same.keep z4)
      have st := st.same z4
      refine ⟨(by show 3 ≤ sizeLine; decide), fun t5 n5 => ?_⟩
      have z5 := same_upd (o := .tup (Row.setField).vs) n5
      have e1 := same_sqt z5 e1
      have e2 := same_sqt z5 e2
      have e3 := same_sqt z5 e3
      have e4 := same_sqt z5 e4
      have e5 := new_row (K := K) (xs := (Row.setField).vs) n5
      have k := k.trans (My.Same.keep z5)
      have st := st.same z5
      refine ⟨(by show 5 ≤ sizeLine; decide), fun T nT => ?_⟩
      have zT := same_upd (o := .tup [.ref t1, .ref t2, .ref t3, .ref t4, .ref t5]) nT
      refine ⟨a, p, T, ns, [.ref t1, .ref t2, .ref t3, .ref t4, .ref t5], rfl, st.same zT, .inl (.inl upd_same), (by show 0 < 5; decide), (by show 5 ≤ 100; decide), fun H9 v hv k9 st9 => ?_⟩
      have k := (k.trans (My.Same.keep zT)).trans k9
      simp only [List.mem_cons, List.not_mem_nil, or_false] at hv
      rcases hv with rfl | rfl | rfl | rfl | rfl
      · exact q H9 _ (Row.klass) k st9 (row_keep (st.same zT) k9 (same_sqt zT e1))
      · exact q H9 _ (Row.method) k st9 (row_keep (st.same zT) k9 (same_sqt zT e2))
      · exact q H9 _ (Row.iter) k st9 (row_keep (st.same zT) k9 (same_sqt zT e3))
      · exact q H9 _ (Row.field) k st9 (row_keep (st.same zT) k9 (same_sqt zT e4))
      · exact q H9 _ (Row.setField) k st9 (row_keep (st.same zT) k9 (same_sqt zT e5))
    refine ⟨_, rfl, rfl, _, rfl, ite_or (fun _ => ?_) (fun _ => ?_)⟩
    · refine ⟨_, rfl, ?_⟩
      have k := k0
      have st := st1
      refine ⟨(by show 1 ≤ sizeLine; decide), fun t1 n1 => ?_⟩
      have z1 := same_upd (o := .tup (Row.leave).vs) n1
      have e1 := new_row (K := K) (xs := (Row.leave).vs) n1
      have k := k.trans (My.Same.keep z1)
      have st := st.same z1
      refine ⟨(by show 1 ≤ sizeLine; decide), fun t2 n2 => ?_⟩
      have z2 := same_upd (o := .tup (Row.blank).vs) n2
      have e1 := same_sqt z2 e1
      have e2 := new_row (K := K) (xs := (Row.blank).vs) n2
      have k := k.trans (My.Same.keep z2)
      have st := st.same z2
      refine ⟨(by show 2 ≤ sizeLine; decide), fun t3 n3 => ?_⟩
      have z3 := same_upd (o := .tup (Row.const (.int 3)).vs) n3
      have e1 := same_sqt z3 e1
      have e2 := same_sqt z3 e2
      have e3 := new_row (K := K) (xs := (Row.const (.int 3)).vs) n3
      have k := k.trans (My.Same.keep z3)
      have st := st.same z3
      refine ⟨(by show 2 ≤ sizeLine; decide), fun t4 n4 => ?_⟩
      have z4 := same_upd (o := .tup (Row.const .non).vs) n4
      have e1 := same_sqt z4 e1
      have e2 := same_sqt z4 e2
      have e3 := same_sqt z4 e3
      have e4 := new_row (K := K) (xs := (Row.const .non).vs) n4
      have k := k.trans (My.Same.keep z4)
      have st := st.same z4
      refine ⟨(by show 4 ≤ sizeLine; decide), fun T nT => ?_⟩
      have zT := same_upd (o := .tup [.ref t1, .ref t2, .ref t3, .ref t4]) nT
      refine ⟨a, p, T, ns, [.ref t1, .ref t2, .ref t3, .ref t4], rfl, st.same zT, .inl (.inl upd_same), (by show 0 < 4; decide), (by show 4 ≤ 100; decide), fun H9 v hv k9 st9 => ?_⟩
      have k := (k.trans (My.Same.keep zT)).trans k9
      simp only [List.mem_cons, List.not_mem_nil, or_false] at hv
      rcases hv with rfl | rfl | rfl | rfl
      · exact q H9 _ (Row.leave) k st9 (row_keep (st.same zT) k9 (same_sqt zT e1))
      · exact q H9 _ (Row.blank) k st9 (row_keep (st.same zT) k9 (same_sqt zT e2))
      · exact q H9 _ (Row.const (.int 3)) k st9 (row_keep (st.same zT) k9 (same_sqt zT e3))
      · exact q H9 _ (Row.const .non) k st9 (row_keep (st.same zT) k9 (same_sqt zT e4))
    refine ⟨_, rfl, _, rfl, _, _, rfl, rfl, a, p, ns, (many : Int) + 1, rfl, st1, by omega, (by have h80 : (2 : Nat) ^ 80 = 1208925819614629174706176 := (by decide); omega), fun G1 x1 g1 st2 l1 u1 => ?_⟩
    obtain ⟨m1, rfl⟩ : ∃ m : Nat, x1 = m := ⟨x1.toNat, by omega⟩
    refine ⟨_, rfl, a, p, ns, 2, rfl, st2, by decide, by decide, fun G2 x2 g2 st3 l2 u2 => ?_⟩
    obtain ⟨m2, rfl⟩ : ∃ m : Nat, x2 = m := ⟨x2.toNat, by omega⟩
    refine ⟨(by show 3 ≤ sizeLine; decide), fun t1 n1 => ?_⟩
    have z1 := same_upd (o := .tup (Row.closure m1 m2).vs) n1
    exact q _ _ (Row.closure m1 m2) (((k0.trans g1).trans g2).trans (My.Same.keep z1)) (st3.same z1) (.inl (.inl (upd_same (o := .tup (Row.closure m1 m2).vs))))
end
end My
namespace My
open PySem L2 SX
open C8 (pss_cut tCut cutS_slice pe_gc)
abbrev okM (m : Str) : Prop := PyData.strOk m = true
theorem fault_str {cs : List Ch} {r : Row} {st va : Nat} {m : Str} (h : fault cs r st va = some m) : okM m := by
  unfold fault at h
  split at h
  · cases h; decide +kernel
  split at h
  · cases h; decide +kernel
  split at h
  · cases h; decide +kernel
  split at h
  · cases h; decide +kernel
  cases r with
  | closure f n =>
    simp only [cloF] at h
    split at h
    · cases h; decide +kernel
    · split at h
      · cases h
      · cases h; decide +kernel
  | _ => cases h
theorem walk_str {cs : List Ch} : ∀ {rows : List Row} {i st va : Nat} {cl cl' : List (Nat × Nat)} {j : Nat} {m : Str}, walk cs rows i st va cl = (some (j, m), cl') → okM m
  | [], _, _, _, _, _, _, _, h => by
    cases h
    show PyData.strOk ("the code ends here" : Str) = true
    decide +kernel
  | r :: rows, i, st, va, cl, cl', j, m, h => by
    rw [walk] at h
    split at h
    · rename_i hf
      cases h
      exact fault_str hf
    · split at h
      · cases h
      · exact walk_str h
theorem queueF_str {cs : List Ch} : ∀ {k : Nat} {todo begun : List (Nat × Nat)} {x : Fl}, x ∈ queueF cs k todo begun → okM x.2.2
  | k, [], begun, x, h => by
    rw [queueF_nil] at h
    cases h
  | 0, _ :: _, _, x, h => by cases h
  | k + 1, y :: rest, begun, x, h => by
    rw [queueF] at h
    split at h
    · rcases List.mem_append.mp h with h | h
      · split at h
        · cases h
        · rw [List.mem_singleton] at h
          subst h
          show PyData.strOk ("made in different scopes" : Str) = true
          decide +kernel
      · exact queueF_str h
    · split at h
      · cases h
      · split at h
        · rename_i hw
          rcases List.mem_cons.mp h with h | h
          · subst h
            exact walk_str hw
          · exact queueF_str h
        · exact queueF_str h
theorem dups_str : ∀ {cs seen : List Ch} {x : Fl}, x ∈ dups seen cs → okM x.2.2
  | [], _, _, h => by cases h
  | c :: cs, seen, x, h => by
    rw [dups] at h
    rcases List.mem_append.mp h with h | h
    · split at h
      · rw [List.mem_singleton] at h
        subst h
        show PyData.strOk ("two functions have this number" : Str) = true
        decide +kernel
      · cases h
    · exact dups_str h
theorem due_str {cs : List Ch} {x : Fl} (h : x ∈ dueF cs) : okM x.2.2 := by
  unfold dueF at h
  rcases List.mem_append.mp h with h | h
  · exact dups_str h
  · unfold lastF at h
    split at h
    · rw [List.mem_singleton] at h
      subst h
      show PyData.strOk ("no such function" : Str) = true
      decide +kernel
    · split at h
      · exact queueF_str h
      · rw [List.mem_singleton] at h
        subst h
        show PyData.strOk ("another number of parameters" : Str) = true
        decide +kernel
theorem fl_data {K : PySem.W.Frag} {c : Fl} (h1 : okM c.2.2) : ∃ ds, SeqAt.shaped (.tuple ds) = true ∧ PyData.eqv (.tuple ds) (.tuple ds) = true ∧ ∀ (H : Hp) (q : Addr), H q = some (.tup [.int (c.1 : Nat), .int (c.2.1 : Nat), .str c.2.2]) → Dp K H (.ref q) (.tuple ds) := by
  have sh : SeqAt.shaped (.tuple [.int (c.1 : Nat), .int (c.2.1 : Nat), .str c.2.2]) = true := by
    simp only [SeqAt.shaped, PyData.canLay0, PyData.canLayAll0, PyData.depth, PyData.depthAll, Bool.and_true, Bool.true_and]
    rw [show PyData.strOk c.2.2 = true from h1]
    rfl
  exact ⟨_, sh, SeqAt.eqv_refl _ (SeqAt.canLay_of_shaped sh), fun H q h => .tup (.inl (.inl h)) (.cons (.int _) (.cons (.int _) (.cons (.str _) .nil)))⟩
theorem ref3 {as : List Addr} {x k : Int} {a : Addr} : as.map V.ref ≠ [.int x, .int k, .ref a] := by
  cases as <;> simp
theorem keepL {K : PySem.W.Frag} {H H' : Hp} {a p l : Addr} {ns : List Int} {as : List Addr} (st : StL K H a p ns) (k : Keep p H H') (h : H l = some (.lst (as.map V.ref))) : H' l = some (.lst (as.map V.ref)) := by
  obtain ⟨x, kk, hp, _, _⟩ := st
  refine k _ _ h fun z => ?_
  rw [z, hp] at h
  have e := Option.some.inj h
  injection e with e
  exact ref3 e.symm
theorem RowsAt.keepP {K : PySem.W.Frag} {H H' : Hp} {a p : Addr} {ns : List Int} (st : StL K H a p ns) (k : Keep p H H') : ∀ {qs : List Addr} {rs : List Row}, RowsAt K H qs rs → RowsAt K H' qs rs
  | [], [], _ => trivial
  | q :: qs, r :: rs, h => ⟨row_keep st k h.1, RowsAt.keepP st k h.2⟩
  | [], _ :: _, h => h.elim
  | _ :: _, [], h => h.elim
theorem RowsAt.upd {K : PySem.W.Frag} {H : Hp} {p : Addr} {o : HO} (hp : (∃ ys, H p = some (.lst ys)) ∨ (∃ ks, H p = some (.dK ks)) ∨ H p = none) : ∀ {qs : List Addr} {rs : List Row}, RowsAt K H qs rs → RowsAt K (upd H p o) qs rs
  | [], [], _ => trivial
  | q :: qs, r :: rs, h => ⟨sqt_upd h.1 hp, RowsAt.upd hp h.2⟩
  | [], _ :: _, h => h.elim
  | _ :: _, [], h => h.elim
/-- a chunk whose list of rows is not at N -/
def ChAtN (K : PySem.W.Frag) (cC N : Addr) (H : Hp) (b : Addr) (ch : Ch) : Prop := ∃ dx rl sl qs, H b = some (.ins cC dx (chF ch rl sl)) ∧ H rl = some (.lst (qs.map V.ref)) ∧ RowsAt K H qs ch.rows ∧ rl ≠ N
theorem ChAtN.to {K : PySem.W.Frag} {cC N : Addr} {H : Hp} {b : Addr} {ch : Ch} (h : ChAtN K cC N H b ch) : ChAt K cC H b ch := by
  obtain ⟨dx, rl, sl, qs, h1, h2, h3, _⟩ := h
  exact ⟨dx, rl, sl, qs, h1, h2, h3⟩
theorem ChAtN.keepP {K : PySem.W.Frag} {cC N : Addr} {H H' : Hp} {b : Addr} {ch : Ch} {a p : Addr} {ns : List Int} (st : StL K H a p ns) (k : Keep p H H') (h : ChAtN K cC N H b ch) : ChAtN K cC N H' b ch := by
  obtain ⟨dx, rl, sl, qs, h1, h2, h3, h4⟩ := h
  obtain ⟨x, kk, hp, _, _⟩ := id st
  exact ⟨dx, rl, sl, qs, k _ _ h1 (fun z => by rw [z, hp] at h1; cases h1), keepL st k h2, h3.keepP st k, h4⟩
theorem ChAtN.put {K : PySem.W.Frag} {cC N : Addr} {H : Hp} {b : Addr} {ch : Ch} {ys : List V} {o : HO} (hN : H N = some (.lst ys)) (h : ChAtN K cC N H b ch) : ChAtN K cC N (upd H N o) b ch := by
  obtain ⟨dx, rl, sl, qs, h1, h2, h3, h4⟩ := h
  exact ⟨dx, rl, sl, qs, by rw [upd_ne (fun z => by rw [z, hN] at h1; cases h1)]; exact h1, by rw [upd_ne h4]; exact h2, h3.upd (.inl ⟨_, hN⟩), h4⟩
def ChsN (K : PySem.W.Frag) (cC N : Addr) (H : Hp) (as : List Addr) (cs : List Ch) : Prop := as.length = cs.length ∧ ∀ (i : Nat) (c : Ch), cs[i]? = some c → ∃ a, as[i]? = some a ∧ ChAtN K cC N H a c
theorem ChsN.to {K : PySem.W.Frag} {cC N : Addr} {H : Hp} {as : List Addr} {cs : List Ch} (h : ChsN K cC N H as cs) : ChsAt K cC H as cs :=
  ⟨h.1, fun i c e => let ⟨a, e1, e2⟩ := h.2 i c e; ⟨a, e1, e2.to⟩⟩
theorem ChsN.imp {K : PySem.W.Frag} {cC N : Addr} {H H' : Hp} {as : List Addr} {cs : List Ch} (s : ∀ a c, ChAtN K cC N H a c → ChAtN K cC N H' a c) (h : ChsN K cC N H as cs) : ChsN K cC N H' as cs :=
  ⟨h.1, fun i c e => let ⟨a, e1, e2⟩ := h.2 i c e; ⟨a, e1, s _ _ e2⟩⟩
theorem ChsN.snoc {K : PySem.W.Frag} {cC N : Addr} {H : Hp} {as : List Addr} {cs : List Ch} {a : Addr} {c : Ch} (h : ChsN K cC N H as cs) (hc : ChAtN K cC N H a c) : ChsN K cC N H (as ++ [a]) (cs ++ [c]) := by
  refine ⟨by simp [h.1], fun i x e => ?_⟩
  by_cases hi : i < cs.length
  · rw [List.getElem?_append_left hi] at e
    obtain ⟨b, e1, e2⟩ := h.2 i x e
    exact ⟨b, by rw [List.getElem?_append_left (by rw [h.1]; exact hi)]; exact e1, e2⟩
  · have hl : i < cs.length + 1 := by
      have := (List.getElem?_eq_some_iff.mp e).1
      simpa using this
    obtain rfl : i = cs.length := by omega
    rw [List.getElem?_concat_length] at e
    cases e
    exact ⟨a, by rw [← h.1, List.getElem?_concat_length], hc⟩
theorem Keep.put {p D : Addr} {H H' : Hp} {o : HO} (k : Keep p H H') (h : H D = none) : Keep p H (upd H' D o) := fun b x e n => by
  rw [upd_ne (ne_of_none e h)]
  exact k b x e n
theorem rep3 {t1 t2 t3 : Addr} {m : Nat} (h : m < 3) : ∃ (qs : List Addr) (rs : List Row), (List.replicate (m : Int).toNat [V.ref t1, .ref t2, .ref t3]).flatten = qs.map V.ref ∧ rs.length ≤ 6 ∧
    ∀ (K : PySem.W.Frag) (H : Hp), SqT K H t1 (Row.const (.int 1)).vs → SqT K H t2 (Row.const (.int 2)).vs → SqT K H t3 Row.blank.vs → RowsAt K H qs rs := by
  have h' : m = 0 ∨ m = 1 ∨ m = 2 := by omega
  rcases h' with rfl | rfl | rfl
  · exact ⟨[], [], rfl, by decide, fun _ _ _ _ _ => trivial⟩
  · exact ⟨[t1, t2, t3], [.const (.int 1), .const (.int 2), .blank], rfl, by decide, fun _ _ a b c => ⟨a, b, c, trivial⟩⟩
  · exact ⟨[t1, t2, t3, t1, t2, t3], [.const (.int 1), .const (.int 2), .blank, .const (.int 1), .const (.int 2), .blank], rfl, by decide, fun _ _ a b c => ⟨a, b, c, a, b, c, trivial⟩⟩
theorem kit_list_list {K : PySem.W.Frag} : PySem.W.kitOne K (.type "list") (.type "list") = some true := kit_ty (show kitB "list" "list" = some true by decide +kernel)
theorem kit_tup_tup {K : PySem.W.Frag} : PySem.W.kitOne K (.type "tuple") (.type "tuple") = some true := kit_ty (show kitB "tuple" "tuple" = some true by decide +kernel)
end My
namespace My
open PySem L2 SX
theorem StL.put {K : PySem.W.Frag} {H7 H' : Hp} {a p D : Addr} {ns : List Int} {o : HO} (st7 : StL K H7 a p ns) (nD : H7 D = none) (k : Keep p H7 H') (st : StL K H' a p ns) : StL K (upd H' D o) a p ns := by
  obtain ⟨x, kk, hp, h0, _⟩ := st
  obtain ⟨x7, kk7, hp7, _, hs7⟩ := st7
  refine ⟨x, kk, ?_, h0, sql_keep (k.put nD) hp7 hs7⟩
  rw [upd_ne (fun z => by rw [z, nD] at hp7; cases hp7)]
  exact hp
theorem ChAtN.same {K : PySem.W.Frag} {cC N : Addr} {H H' : Hp} {b : Addr} {ch : Ch} (s : Same H H') (h : ChAtN K cC N H b ch) : ChAtN K cC N H' b ch := by
  obtain ⟨dx, rl, sl, qs, h1, h2, h3, h4⟩ := h
  exact ⟨dx, rl, sl, qs, s _ _ h1, s _ _ h2, h3.same s, h4⟩
theorem dups_len : ∀ {cs seen : List Ch}, (dups seen cs).length ≤ cs.length
  | [], _ => Nat.le_refl _
  | c :: cs, seen => by
    rw [dups]
    have := dups_len (cs := cs) (seen := seen ++ [c])
    split
    · simp
      omega
    · simp
      omega
theorem due_len {cs : List Ch} : (dueF cs).length ≤ cs.length + 400 := by
  unfold dueF
  rw [List.length_append]
  have h1 := dups_len (cs := cs) (seen := [])
  have h2 : (lastF cs).length ≤ 400 := by
    unfold lastF
    split
    · exact (by decide : 1 ≤ 400)
    · split
      · exact queueF_len
      · exact (by decide : 1 ≤ 400)
  omega
end My
namespace My
open PySem L2 SX
open C8 (pss_cut tCut cutS_slice pe_gc)
section
variable {P : Program} {w : World} {K : PySem.W.Frag} {mg : Str → Option Value} {base : Heap} {vA cA eA lA bA cC kT kL kE kN kS kM kF kO kC kQ : Addr} {uT uL uE uN uS uM uF uO uC uQ : FuncData}
  {lC lB lD lP lR lT lG lL lW lQ lF lU lJ fI oE : Addr} {hC hB hD hP hR hT hG hL hW hQ hF hU hJ gI : FuncData}
abbrev sLaw : Stmt := top 35
theorem scLaw : FnScope ["script", "k", "state", "many", "chunks", "j", "number", "rows", "wanted", "told", "due", "i"] ["script"] (defScope sLaw) := ⟨rfl, rfl, rfl, by decide +kernel, rfl, by decide +kernel, by decide +kernel⟩
def spLaw (K : PySem.W.Frag) : Sp := fun vs H Q _ => ∃ (a : Addr) (ns : List Int), vs = [.ref a] ∧ SqL K H a (ns.map V.int) ∧ ns.length ≤ 63 ∧ ∀ H', Q (.bl true) H'
theorem ok_law {f : Addr} {fd : FuncData} {ds : List Value} (F : Fun K "law" "law" sLaw f fd) (B : Bl mg) (bt : mg "tuple" = none) (T : Tb K mg w vA cA eA lA bA) (C : Cc K mg cC) (D : Pd K mg kT kL kE kN uT uL uE uN) (E2 : Pc K mg kS kM kF kO uS uM uF uO)
    (FC : Fun K "check_function" "check_function" sCheck kC uC) (bC : Binds K uC ["by_number", "number", "variables"] []) (gC : mg "check_function" = some (.ref kC))
    (FQ : Fun K "flaws_of_functions" "flaws_of_functions" sFof kQ uQ) (bQ : Binds K uQ ["by_number"] []) (gQ : mg "flaws_of_functions" = some (.ref kQ))
    (FF : Fun K "flaws_of" "flaws_of" sFlaws lF hF) (bF : Binds K hF ["chunks"] []) (gF : mg "flaws_of" = some (.ref lF))
    (MC : Mk K cC fI) (FI : FunD K "__init__" "Chunk.__init__" (defArgs sIC) (defBody sIC) (defScope sIC) [.ref oE] [] fI gI) (bI : Binds K gI ["self", "number", "wanted", "rows", "scopes"] ds) (dI : Vals [.ref oE] ds) (sE : ∀ H, SqT K H oE [])
    (L : Lx K mg lC lB lD hC hB hD) (FP : Fun K "_law_pick" "_law_pick" sPick lP hP) (bP : Binds K hP ["state", "row"] []) (gP : mg "_law_pick" = some (.ref lP))
    (FR : Fun K "_law_row" "_law_row" sLRow lR hR) (bR : Binds K hR ["state", "many"] []) (gR : mg "_law_row" = some (.ref lR))
    (L2 : Ld K mg lT lG hT hG) (FL : Fun K "_law_lacks" "_law_lacks" sLacks lL hL) (bL : Binds K hL ["chunks", "row", "stack", "variables"] []) (gL : mg "_law_lacks" = some (.ref lL))
    (FW : Fun K "_law_walk" "_law_walk" sLWalk lW hW) (bW : Binds K hW ["chunks", "chunk", "variables"] []) (gW : mg "_law_walk" = some (.ref lW))
    (FK : Fun K "_law_queue" "_law_queue" sLQueue lQ hQ) (bK : Binds K hQ ["chunks"] []) (gK : mg "_law_queue" = some (.ref lQ))
    (FU : Fun K "_law_due" "_law_due" sLDue lU hU) (bU : Binds K hU ["chunks"] []) (gU : mg "_law_due" = some (.ref lU))
    (FJ : Fun K "_law_is_integer" "_law_is_integer" sIsInteger lJ hJ) (bJ : Binds K hJ ["told"] []) (gJ : mg "_law_is_integer" = some (.ref lJ)) : FnOk P w K mg base CX0 7 f fd ["script"] (spLaw K) := by
  have GF : FnOk P w K mg base CX0 6 lF hF ["chunks"] (spFlaws K cC) := ok_flaws FF B FC bC gC FQ bQ gQ T C D E2
  have GU : FnOk P w K mg base CX0 5 lU hU ["chunks"] (spFlaws K cC) := ok_ldue FU B C L2 FL bL gL FW bW gW FK bK gK
  have GD : FnOk P w K mg base CX0 2 lD hD ["state", "many"] (spDraw K) := ok_draw L.fD B L.fC L.bC L.gC
  have GB : FnOk P w K mg base CX0 1 lB hB ["script", "k"] (spBegin K) := ok_begin L.fB
  have GP : FnOk P w K mg base CX0 3 lP hP ["state", "row"] (spPick K) := ok_pick FP B L.fC L.bC L.gC L.fD L.bD L.gD
  have GR : FnOk P w K mg base CX0 4 lR hR ["state", "many"] (spLRow K) := ok_lrow FR B L FP bP gP
  have GI : FnOk P w K mg base CX0 1 fI gI ["self", "number", "wanted", "rows", "scopes"] (spIC K cC) := ok_IC FI B C
  have GJ : FnOk P w K mg base CX0 1 lJ hJ ["told"] spIsInteger := ok_is_integer FJ B
  refine F.ok scLaw (fun vs H Q E h => ?_) (fun cdv A outer s H vs Q E hr h => ?_)
  · obtain ⟨a, ns, rfl, _⟩ := h
    rfl
  · obtain ⟨a, ns, rfl, hS, hlen, q⟩ := h
    have nd := scLaw.nd
    have h1 : Room 1 _ := hr.mono (by decide)
    have h2 : Room 2 _ := hr.mono (by decide)
    have h3 : Room 3 _ := hr.mono (by decide)
    have h4 : Room 4 _ := hr.mono (by decide)
    have h5 : Room 5 _ := hr.mono (by decide)
    refine ⟨_, pss_cons (ps_for PassesOwn.never rfl (pi_range1 (by rfl) B.range (pa_cons (pe_callB (call_min2 rfl) (by rfl) B.min (by decide +kernel) (pa_cons pe_int (pa_cons (pe_callB (call_max2 rfl) (by rfl) B.max (by decide +kernel) (pa_cons pe_int (pa_cons (pe_callB call_len_seq (by rfl) B.len PySem.boot_len (pa_cons (pv 0) pa_nil)) pa_nil))) pa_nil))) pa_nil)) (pg_name (i := 1) nd rfl (.inl rfl))
        (pss_cons (ps_set (i := 2) nd rfl (.inr rfl) (pe_call GB h1 (by rfl) L.gB L.fB.kp L.bB .nil pass0 (pa_cons (pv 0) (pa_cons (pe_op op_mul pe_int (pv 1)) pa_nil))))
        (pss_cons (ps_set (i := 3) nd rfl (.inr rfl) (pe_call GD h2 (by rfl) L.gD L.fD.kp L.bD .nil pass0 (pa_cons (pv 2) (pa_cons pe_int pa_nil))))
        (pss_cons (ps_set (i := 4) nd rfl (.inl rfl) (pe_lst pa_nil))
        (pss_cons (ps_for PassesOwn.never rfl (pi_range1 (by rfl) B.range (pa_cons (pv 3) pa_nil)) (pg_name (i := 5) nd rfl (.inl rfl))
          (pss_cons (ps_set (i := 6) nd rfl (.inl rfl) (pv 5))
          (pss_cut (ps_if (pt_cmpR op_eq (pe_call GD h2 (by rfl) L.gD L.fD.kp L.bD .nil pass0 (pa_cons (pv 2) (pa_cons pe_int pa_nil))) pe_int (nomark _)) (pss_one (ps_set (i := 6) nd rfl (.inl rfl) (pe_call GD h2 (by rfl) L.gD L.fD.kp L.bD .nil pass0 (pa_cons (pv 2) (pa_cons (pv 3) pa_nil))))) pss_nil)
          (pss_cons (ps_setLc (i := 7) (own := [("i", 11)]) (g := gName 11) (tt := tYes) (by rfl) nd rfl rfl (sw_true rfl rfl rfl (by decide +kernel)) (pi_range1 (by rfl) B.range (pa_cons (pe_call GD h2 (by rfl) L.gD L.fD.kp L.bD .nil pass0 (pa_cons (pv 2) (pa_cons pe_int pa_nil))) pa_nil)) (blkOk_by (own := [("i", 11)]) (N := ["script", "k", "state", "many", "chunks", "j", "number", "rows", "wanted", "told", "due", "i"]) (sc := defScope sLaw) (by decide +kernel)) (fun _ _ _ _ _ => pg_name (i := 11) nd rfl (.inl rfl)) (fun _ _ _ _ _ => pts_nil)
            (fun _ _ _ _ _ => (pe_call GR h4 (by rfl) gR FR.kp bR .nil pass0 (pa_cons (pv 2) (pa_cons (pv 3) pa_nil)))))
          (pss_cons (ps_set (i := 7) nd rfl (.inl rfl) (pe_op op_cat (pe_op op_rep (pe_lst (pa_cons (pe_tup (pa_cons pe_str (pa_cons pe_int pa_nil))) (pa_cons (pe_tup (pa_cons pe_str (pa_cons pe_int pa_nil))) (pa_cons (pe_tup (pa_cons pe_str pa_nil)) pa_nil)))) (pe_call GD h2 (by rfl) L.gD L.fD.kp L.bD .nil pass0 (pa_cons (pv 2) (pa_cons pe_int pa_nil)))) (pv 7)))
          (pss_cons (ps_set (i := 7) nd rfl (.inl rfl) (pe_op op_cat (pv 7) (pe_call GP h3 (by rfl) gP FP.kp bP .nil pass0 (pa_cons (pv 2) (pa_cons (pe_tup (pa_cons (pe_lst (pa_cons (pe_tup (pa_cons pe_str (pa_cons pe_int pa_nil))) (pa_cons (pe_tup (pa_cons pe_str pa_nil)) pa_nil))) (pa_cons (pe_lst (pa_cons (pe_tup (pa_cons pe_str (pa_cons pe_int pa_nil))) (pa_cons (pe_tup (pa_cons pe_str (pa_cons pe_int pa_nil))) pa_nil))) (pa_cons (pe_lst (pa_cons (pe_tup (pa_cons pe_str pa_nil)) pa_nil)) (pa_cons (pe_lst pa_nil) pa_nil))))) pa_nil)))))
          (pss_cons (ps_set (i := 8) nd rfl (.inl rfl) pe_int)
          (pss_cut (ps_if (pt_cmpR op_gt (pv 6) pe_int (nomark _)) (pss_one (ps_set (i := 8) nd rfl (.inl rfl) (pe_call GD h2 (by rfl) L.gD L.fD.kp L.bD .nil pass0 (pa_cons (pv 2) (pa_cons pe_int pa_nil))))) pss_nil)
          (pss_cut (ps_if (pt_cmpR op_eq (pe_call GD h2 (by rfl) L.gD L.fD.kp L.bD .nil pass0 (pa_cons (pv 2) (pa_cons pe_int pa_nil))) pe_int (nomark _)) (pss_one (ps_set (i := 8) nd rfl (.inl rfl) pe_int)) pss_nil)
          (pss_one (ps_expr (pe_bm PySem.F.plainAttrs_list PySem.F.slot_list_append PySem.F.type_list_append mt_append (pv 4) (pa_cons (pe_make MC GI h2 (by rfl) C.g bI dI pass0 (pa_cons (pv 6) (pa_cons (pv 8) (pa_cons (pv 7) pa_nil)))) pa_nil)))))))))))))
        (pss_cons (ps_set (i := 9) nd rfl (.inl rfl) (pe_call GF hr (by rfl) gF FF.kp bF .nil pass0 (pa_cons (pv 4) pa_nil)))
        (pss_cons (ps_set (i := 10) nd rfl (.inl rfl) (pe_call GU h5 (by rfl) gU FU.kp bU .nil pass0 (pa_cons (pv 4) pa_nil)))
        (pss_cons (ps_if (PW.pt (pw_or (pt_not (pt_val (pe_callB call_isi (by rfl) B.isinstance (by decide +kernel) (pa_cons (pv 9) (pa_cons (pe_bltn (v := .ty "list") (by rfl) B.list (by decide +kernel) rfl) pa_nil))))) (pw_or1 (pt_cmpR op_ne (pe_callB call_len_seq (by rfl) B.len PySem.boot_len (pa_cons (pv 9) pa_nil)) (pe_callB call_len_seq (by rfl) B.len PySem.boot_len (pa_cons (pv 10) pa_nil)) (nomark _))))) (pss_one (ps_ret pe_bl)) pss_nil)
        (pss_one (ps_for PassesOwn.never rfl (pi_range1 (by rfl) B.range (pa_cons (pe_callB call_len_seq (by rfl) B.len PySem.boot_len (pa_cons (pv 10) pa_nil)) pa_nil)) (pg_name (i := 5) nd rfl (.inl rfl))
          (pss_one (ps_if (PW.pt (pw_or (pt_not (pt_val (pe_callB call_isi (by rfl) B.isinstance (by decide +kernel) (pa_cons (pe_ix ix_list (pv 9) (pv 5) (fun _ _ => rfl)) (pa_cons (pe_bltn (v := .ty "tuple") (by rfl) bt (by decide +kernel) rfl) pa_nil))))) (pw_or (pt_cmpR (op_neD hr.units) (pe_ix ix_list (pv 9) (pv 5) (fun _ _ => rfl)) (pe_ix ix_list (pv 10) (pv 5) (fun _ _ => rfl)) (nomark _))
            (pw_or1 (pt_not (pt_val (pe_call GJ h1 (by rfl) gJ FJ.kp bJ .nil pass0 (pa_cons (pe_ix ix_tup (pe_ix ix_list (pv 9) (pv 5) (fun _ _ => rfl)) pe_int (fun _ _ => rfl)) pa_nil))))))))
            (pss_one (ps_ret pe_bl)) pss_nil))))))))))))
      (pss_one (ps_ret pe_bl)), ?_⟩
    let In : Nat → List (Option V) → Hp → Prop := fun _ σ H' => ∃ y1 y2 y3 y4 y5 y6 y7 y8 y9 y10 y11 : Option V, σ = [some (.ref a), y1, y2, y3, y4, y5, y6, y7, y8, y9, y10, y11] ∧ SqL K H' a (ns.map V.int)
    refine ⟨_, rfl, a, _, rfl, .inl hS, _, _, rfl, _, _, rfl, _, rfl, ?_, ?_, for_range In ⟨none, none, none, none, none, none, none, none, none, none, none, rfl, hS⟩ ?_ ?_⟩
    · split <;> (try split) <;> (try split) <;> omega
    · have hl : (List.map V.int ns).length = ns.length := List.length_map _
      split <;> (try split) <;> (try split) <;> omega
    · rintro i σ H2 hi ⟨y1, y2, y3, y4, y5, y6, y7, y8, y9, y10, y11, rfl, hS2⟩
      rw [Int.zero_add]
      refine ⟨_, rfl, _, rfl, _, _, rfl, rfl, .inl ⟨by decide, by decide⟩, a, ns, _, rfl, hS2, by omega, fun H3 p np s3 st3 => ?_⟩
      refine ⟨_, rfl, a, p, ns, 6, rfl, st3, by decide, by decide, fun H4 x4 k4 st4 l4 u4 => ?_⟩
      obtain ⟨m, rfl⟩ : ∃ m : Nat, x4 = m := ⟨x4.toNat, by omega⟩
      refine ⟨Nat.zero_le _, fun C nC => ?_⟩
      have uC := same_upd (o := .lst []) nC
      let In2 : Nat → List (Option V) → Hp → Prop := fun j σ H' => ∃ (y5 y6 y7 y8 : Option V) (as : List Addr) (cs : List Ch), σ = [some (.ref a), some (.int i), some (.ref p), some (.int m), some (.ref C), y5, y6, y7, y8, y9, y10, y11] ∧ Keep p H4 H' ∧ StL K H' a p ns ∧ H' C = some (.lst (as.map V.ref)) ∧ ChsN K cC C H' as cs ∧ cs.length = j ∧ ∀ ch ∈ cs, ch.rows.length ≤ 22
      refine ⟨_, rfl, _, rfl, by omega, by omega, for_range In2 ⟨y5, y6, y7, y8, [], [], rfl, My.Same.keep uC, st4.same uC, upd_same, ⟨rfl, fun i c e => by simp at e⟩, rfl, fun ch hch => by cases hch⟩ ?_ ?_⟩
      · rintro j σ H5 hj ⟨y5, y6, y7, y8, as, cs, rfl, k5, st5, hC, hcs, hlj, h22⟩
        rw [Int.zero_add]
        have hjm : j < m := by omega
        refine ⟨_, rfl, ?_⟩
        let M1 : List (Option V) → Hp → Prop := fun σ' H' => ∃ n : Nat, σ' = [some (.ref a), some (.int i), some (.ref p), some (.int m), some (.ref C), some (.int j), some (.int n), y7, y8, y9, y10, y11] ∧ Keep p H5 H' ∧ StL K H' a p ns
        have h80 : (2 : Nat) ^ 80 = 1208925819614629174706176 := by decide
        refine ⟨M1, ⟨_, rfl, a, p, ns, 9, rfl, st5, by decide, by decide, fun H6 x6 k6 st6 l6 u6 => ⟨rfl, _, rfl, ite2 (fun _ => ?_) (fun _ => ⟨j, rfl, k6, st6⟩)⟩⟩, ?_⟩
        · refine ⟨_, rfl, _, rfl, a, p, ns, (m : Int), rfl, st6, by omega, by omega, fun H7 x7 k7 st7 l7 u7 => ⟨x7.toNat, ?_, k6.trans k7, st7⟩⟩
          rw [Int.toNat_of_nonneg l7]
          rfl
        rintro σ' H6 ⟨n, rfl, k6, st6⟩
        refine ⟨_, rfl, a, p, ns, 15, rfl, st6, by decide, by decide, fun H7 x7 k7 st7 l7 u7 => ⟨x7, rfl, by omega, by omega, fun D nD => lc_range (fun t H' => ∃ (qs : List Addr) (rs : List Row), H' D = some (.lst (qs.map V.ref)) ∧ RowsAt K H' qs rs ∧ rs.length = t ∧ StL K H' a p ns ∧ Keep p H7 H')
          ⟨[], [], upd_same, trivial, rfl, st7.same (same_upd nD), My.Same.keep (same_upd nD)⟩ ?_ ?_⟩⟩
        · rintro t H8 ht ⟨qs, rs, hD, hrows, hlr, st8, k8⟩
          refine ⟨rfl, _, rfl, _, rfl, a, p, ns, m, rfl, st8, by omega, by omega, fun H9 r rw' k9 st9 hr9 => ?_⟩
          have hD9 := keepL st8 k9 hD
          have hq9 := hrows.len
          refine ⟨_, hD9, Nat.lt_of_le_of_lt (m := 401) (by rw [List.length_map]; omega) (by decide), qs ++ [r], rs ++ [rw'], by rw [upd_same, List.map_append]; rfl, RowsAt.upd (.inl ⟨_, hD9⟩) (RowsAt.snoc hr9 (hrows.keepP st8 k9)), by simp [hlr], StL.put st7 nD (k8.trans k9) st9, (k8.trans k9).put nD⟩
        rintro H8 ⟨qs, rs, hD, hrows, hlr, st8, k8⟩
        have hq8 := hrows.len
        have K8 := (k6.trans k7).trans k8
        -- what comes in front
        refine ⟨(by show 2 ≤ sizeLine; decide), fun t1 n1 => ⟨(by show 2 ≤ sizeLine; decide), fun t2 n2 => ⟨(by show 1 ≤ sizeLine; decide), fun t3 n3 => ⟨(by show 3 ≤ sizeLine; decide), fun L1 nL1 => ?_⟩⟩⟩⟩
        have z1 := same_upd (o := .tup (Row.const (.int 1)).vs) n1
        have z2 := same_upd (o := .tup (Row.const (.int 2)).vs) n2
        have z3 := same_upd (o := .tup Row.blank.vs) n3
        have z4 := same_upd (o := .lst [.ref t1, .ref t2, .ref t3]) nL1
        have e1 := new_row (K := K) (xs := (Row.const (.int 1)).vs) n1
        have e2 := new_row (K := K) (xs := (Row.const (.int 2)).vs) n2
        have e3 := new_row (K := K) (xs := Row.blank.vs) n3
        have z14 := z1.trans (z2.trans (z3.trans z4))
        have st9 := st8.same z14
        have e1' := same_sqt (z2.trans (z3.trans z4)) e1
        have e2' := same_sqt (z3.trans z4) e2
        have e3' := same_sqt z4 e3
        have hD9 := z14 _ _ hD
        have hrows9 := hrows.same z14
        refine ⟨_, rfl, a, p, ns, 3, rfl, st9, by decide, by decide, fun H9 x9 k9 st9' l9 u9 => ?_⟩
        obtain ⟨m9, rfl⟩ : ∃ m : Nat, x9 = m := ⟨x9.toNat, by omega⟩
        have hL1 : H9 L1 = some (.lst ([t1, t2, t3].map V.ref)) := keepL (as := [t1, t2, t3]) st9 k9 upd_same
        obtain ⟨qs3, rs3, er, hl3, hr3⟩ := rep3 (t1 := t1) (t2 := t2) (t3 := t3) (m := m9) (by omega)
        refine ⟨L1, _, _, rfl, rfl, hL1, by omega, by omega, Nat.le_trans (m := 401) (by show 3 * _ ≤ 401; omega) (by decide), fun R1 nR1 => ?_⟩
        rw [show (List.replicate (m9 : Int).toNat (List.map V.ref [t1, t2, t3])).flatten = qs3.map V.ref from er]
        have zR1 := same_upd (o := .lst (qs3.map V.ref)) nR1
        have st10 := st9'.same zR1
        have hD10 := zR1 _ _ (keepL st9 k9 hD9)
        have K10 := ((K8.trans (My.Same.keep z14)).trans k9).trans (My.Same.keep zR1)
        have hl3q : qs3.length = rs3.length := (hr3 K _ e1' e2' e3').len
        refine ⟨_, rfl, R1, D, _, _, rfl, rfl, upd_same, hD10, Nat.le_trans (m := 401) (by rw [List.length_map, List.length_map]; omega) (by decide), fun R2 nR2 => ?_⟩
        rw [← List.map_append]
        have zR2 := same_upd (o := .lst ((qs3 ++ qs).map V.ref)) nR2
        have st11 := st10.same zR2
        have z12 := zR1.trans zR2
        have K11 := K10.trans (My.Same.keep zR2)
        have hrows11 := RowsAt.app ((hrows9.keepP st9 k9).same z12) (hr3 K _ (same_sqt z12 (row_keep st9 k9 e1')) (same_sqt z12 (row_keep st9 k9 e2')) (same_sqt z12 (row_keep st9 k9 e3')))
        -- how it ends
        refine ⟨_, rfl, _, rfl, ?_⟩
        refine ⟨(by show 2 ≤ sizeLine; decide), fun a1 na1 => ⟨(by show 1 ≤ sizeLine; decide), fun a2 na2 => ⟨(by show 2 ≤ sizeLine; decide), fun l1 nl1 => ?_⟩⟩⟩
        have w1 := same_upd (o := .tup (Row.const (.int 1)).vs) na1
        have w2 := same_upd (o := .tup Row.ret.vs) na2
        have w3 := same_upd (o := .lst [.ref a1, .ref a2]) nl1
        have f1 := new_row (K := K) (xs := (Row.const (.int 1)).vs) na1
        have f2 := new_row (K := K) (xs := Row.ret.vs) na2
        refine ⟨(by show 2 ≤ sizeLine; decide), fun b1 nb1 => ⟨(by show 2 ≤ sizeLine; decide), fun b2 nb2 => ⟨(by show 2 ≤ sizeLine; decide), fun l2 nl2 => ?_⟩⟩⟩
        have w4 := same_upd (o := .tup (Row.const (.int 1)).vs) nb1
        have w5 := same_upd (o := .tup Row.raise.vs) nb2
        have w6 := same_upd (o := .lst [.ref b1, .ref b2]) nl2
        have f4 := new_row (K := K) (xs := (Row.const (.int 1)).vs) nb1
        have f5 := new_row (K := K) (xs := Row.raise.vs) nb2
        refine ⟨(by show 1 ≤ sizeLine; decide), fun c1 nc1 => ⟨(by show 1 ≤ sizeLine; decide), fun l3 nl3 => ?_⟩⟩
        have w7 := same_upd (o := .tup Row.ret.vs) nc1
        have w8 := same_upd (o := .lst [.ref c1]) nl3
        have f7 := new_row (K := K) (xs := Row.ret.vs) nc1
        refine ⟨Nat.zero_le _, fun l4 nl4 => ?_⟩
        have w9 := same_upd (o := .lst []) nl4
        refine ⟨(by show 4 ≤ sizeLine; decide), fun TT nTT => ?_⟩
        have w10 := same_upd (o := .tup [.ref l1, .ref l2, .ref l3, .ref l4]) nTT
        have r10 := w10
        have r9 := w9.trans r10
        have r8 := w8.trans r9
        have r7 := w7.trans r8
        have r6 := w6.trans r7
        have r5 := w5.trans r6
        have r4 := w4.trans r5
        have r3 := w3.trans r4
        have r2 := w2.trans r3
        have r1 := w1.trans r2
        have st12 := st11.same r1
        refine ⟨a, p, TT, ns, [.ref l1, .ref l2, .ref l3, .ref l4], rfl, st12, .inl (.inl upd_same), (by show 0 < 4; decide), (by show 4 ≤ 100; decide), fun H12 v hv k12 st13 => ?_⟩
        obtain ⟨lv, qv, rv, rfl, hlv, hrv, hle⟩ : ∃ lv qv rv, v = .ref lv ∧ H12 lv = some (.lst (qv.map V.ref)) ∧ RowsAt K H12 qv rv ∧ rv.length ≤ 2 := by
          simp only [List.mem_cons, List.not_mem_nil, or_false] at hv
          rcases hv with rfl | rfl | rfl | rfl
          · exact ⟨l1, [a1, a2], [.const (.int 1), .ret], rfl, keepL (as := [a1, a2]) st12 k12 (r4 _ _ upd_same), ⟨row_keep st12 k12 (same_sqt r2 f1), row_keep st12 k12 (same_sqt r3 f2), trivial⟩, by decide⟩
          · exact ⟨l2, [b1, b2], [.const (.int 1), .raise], rfl, keepL (as := [b1, b2]) st12 k12 (r7 _ _ upd_same), ⟨row_keep st12 k12 (same_sqt r5 f4), row_keep st12 k12 (same_sqt r6 f5), trivial⟩, by decide⟩
          · exact ⟨l3, [c1], [.ret], rfl, keepL (as := [c1]) st12 k12 (r9 _ _ upd_same), ⟨row_keep st12 k12 (same_sqt r8 f7), trivial⟩, by decide⟩
          · exact ⟨l4, [], [], rfl, keepL (as := []) st12 k12 (r10 _ _ upd_same), trivial, by decide⟩
        have hlvq := hrv.len
        have hR2 := keepL st12 k12 (r1 _ _ (upd_same (a := R2) (o := .lst ((qs3 ++ qs).map V.ref))))
        have K12 := (K11.trans (My.Same.keep r1)).trans k12
        have hrows12 := (hrows11.same r1).keepP st12 k12
        refine ⟨R2, lv, _, _, rfl, rfl, hR2, hlv, Nat.le_trans (m := 401) (by rw [List.length_map, List.length_map, List.length_append]; omega) (by decide), fun R3 nR3 => ?_⟩
        rw [← List.map_append]
        have zR3 := same_upd (o := .lst ((qs3 ++ qs ++ qv).map V.ref)) nR3
        have st14 := st13.same zR3
        have K13 := K12.trans (My.Same.keep zR3)
        have hrows13 := RowsAt.app (hrv.same zR3) (hrows12.same zR3)
        have hR3 : (upd H12 R3 (.lst ((qs3 ++ qs ++ qv).map V.ref))) R3 = some (.lst ((qs3 ++ qs ++ qv).map V.ref)) := upd_same
        have hl22 : (rs3 ++ rs ++ rv).length ≤ 22 := by
          rw [List.length_append, List.length_append]
          omega
        generalize upd H12 R3 (.lst ((qs3 ++ qs ++ qv).map V.ref)) = H13 at *
        generalize qs3 ++ qs ++ qv = qr at *
        generalize rs3 ++ rs ++ rv = rr at *
        let M2 : List (Option V) → Hp → Prop := fun σ' H' => ∃ wt : Nat, σ' = [some (.ref a), some (.int i), some (.ref p), some (.int m), some (.ref C), some (.int j), some (.int n), some (.ref R3), some (.int wt), y9, y10, y11] ∧ Keep p H13 H' ∧ StL K H' a p ns
        refine ⟨M2, ⟨_, rfl, _, _, rfl, rfl, _, rfl, ite2 (fun _ => ?_) (fun _ => ⟨0, rfl, fun _ _ e _ => e, st14⟩)⟩, ?_⟩
        · refine ⟨_, rfl, a, p, ns, 2, rfl, st14, by decide, by decide, fun H14 x14 k14 st15 l14 u14 => ⟨x14.toNat, ?_, k14, st15⟩⟩
          rw [Int.toNat_of_nonneg l14]
          rfl
        rintro σ' H14 ⟨wt, rfl, k14, st15⟩
        refine ⟨M2, ⟨_, rfl, a, p, ns, 30, rfl, st15, by decide, by decide, fun H15 x15 k15 st16 l15 u15 => ⟨rfl, _, rfl, ite2 (fun _ => ⟨1, rfl, k14.trans k15, st16⟩) (fun _ => ⟨wt, rfl, k14.trans k15, st16⟩)⟩⟩, ?_⟩
        rintro σ' H15 ⟨wt2, rfl, k15, st16⟩
        have K15 := K13.trans k15
        have hR3' := keepL st14 k15 hR3
        have hrows15 := hrows13.keepP st14 k15
        have hC15 := keepL st5 K15 hC
        have hcs15 := hcs.imp fun _ _ h => h.keepP st5 K15
        refine ⟨_, rfl, .inl ⟨rfl, _, SqL.of hC15⟩, _, rfl, _, rfl, _, rfl, fun o dxo no ndo nxd => ?_⟩
        have sm : Same H15 (upd (upd H15 dxo (.own o)) o (.ins cC dxo [])) := fun b ob e => by
          rw [upd_ne (ne_of_none e no), upd_ne (ne_of_none e ndo)]
          exact e
        refine ⟨o, dxo, R3, oE, n, wt2, _, rr, rfl, upd_same, sm _ _ hR3', sE _, fun H16 rl sl kx hx hrl nrl => ⟨rfl, ?_⟩⟩
        have s16 : Same H15 H16 := Same.made no ndo kx
        have hC16 := s16 _ _ hC15
        have hcl : as.length = cs.length := hcs.1
        refine ⟨C, _, _, rfl, rfl, hC16, Nat.lt_of_le_of_lt (m := 401) (by rw [List.length_map]; omega) (by decide), ?_⟩
        have nrlC : rl ≠ C := fun z => by
          have h := sNew sm nrl
          rw [z, hC15] at h
          cases h
        have K16 := (k5.trans K15).trans (My.Same.keep s16)
        refine ⟨_, _, _, _, as ++ [o], cs ++ [⟨n, wt2, rr⟩], rfl, K16.put nC, StL.put st4 nC K16 (st16.same s16), by rw [upd_same, List.map_append]; rfl, ?_, ?_, ?_⟩
        · refine ChsN.snoc ((hcs15.imp fun _ _ h => h.same s16).imp fun _ _ h => h.put hC16) (ChAtN.put hC16 ⟨dxo, rl, sl, qr, hx, hrl, hrows15.same s16, nrlC⟩)
        · rw [List.length_append, List.length_singleton, hlj]
        · intro c hc
          rcases List.mem_append.mp hc with hc | hc
          · exact h22 c hc
          · rw [List.mem_singleton] at hc
            subst hc
            exact hl22
      · rintro σ H5 ⟨y5, y6, y7, y8, as, cs, rfl, k5, st5, hC, hcs, hlj, h22⟩
        have h18 : cs.length ≤ 18 := by omega
        refine ⟨_, rfl, C, as, cs, rfl, hC, hcs.to, h18, h22, fun H6 t fs s6 nt ht hfs => ?_⟩
        refine ⟨_, rfl, C, as, cs, rfl, s6 _ _ hC, hcs.to.imp (fun _ _ h => h.same s6), h18, h22, fun H7 d gs s7 nd' hd hgs => ?_⟩
        have ht7 := s7 _ _ ht
        have hfs7 := hfs.imp fun b xs e => s7 _ _ e
        have hlen2 : fs.length = gs.length := by rw [hfs.len, hgs.len]
        refine ⟨_, rfl, _, .ty "list", _, _, true, rfl, .ty _, .base (.lst ht7), kit_list_list, _, rfl, iteF ?_⟩
        refine ⟨_, rfl, t, _, rfl, .inl (SqL.of ht7), _, rfl, d, _, rfl, .inl (SqL.of hd), rfl, _, rfl, ifF (by simp [hlen2]) ?_⟩
        have hgl : gs.length ≤ 418 := by
          rw [hgs.len]
          have := due_len (cs := cs)
          omega
        refine ⟨_, rfl, d, _, rfl, .inl (SqL.of hd), _, rfl, by omega, by omega, for_range (fun j σ H' => ∃ y5 : Option V, σ = [some (.ref a), some (.int i), some (.ref p), some (.int m), some (.ref C), y5, y6, y7, y8, some (.ref t), some (.ref d), y11] ∧ H' = H7) ⟨y5, rfl, rfl⟩ ?_ ?_⟩
        · rintro j σ H8 hj ⟨z5, rfl, rfl⟩
          rw [Int.zero_add]
          have hjd : j < (dueF cs).length := by rw [← hgs.len]; omega
          obtain ⟨c, hc⟩ : ∃ c, (dueF cs)[j]? = some c := ⟨_, List.getElem?_eq_getElem hjd⟩
          obtain ⟨q1, g1, hq1⟩ := hfs7.get hc
          obtain ⟨q2, g2, hq2⟩ := hgs.get hc
          obtain ⟨ds', sh, ev, dp⟩ := fl_data (K := K) (due_str (List.mem_of_getElem? hc))
          refine ⟨_, rfl, _, rfl, t, _, _, _, rfl, rfl, SqL.of ht7, atI_nat g1, _, .ty "tuple", _, _, true, rfl, .ty _, .base (.tup hq1), kit_tup_tup, _, rfl, iteF ?_⟩
          refine ⟨_, rfl, _, rfl, t, _, _, _, rfl, rfl, SqL.of ht7, atI_nat g1, _, rfl, _, rfl, d, _, _, _, rfl, rfl, SqL.of hd, atI_nat g2, _, _, dp _ _ hq1, dp _ _ hq2, sh, sh, _, rfl, ifF (by rw [ev]; rfl) ?_⟩
          exact ⟨_, rfl, _, rfl, t, _, _, _, rfl, rfl, SqL.of ht7, atI_nat g1, q1, _, _, _, rfl, rfl, .inl (.inl hq1), rfl, _, rfl, _, rfl, ⟨_, rfl, rfl⟩⟩
        · rintro σ H8 ⟨z5, rfl, rfl⟩
          obtain ⟨_, _, _, _, hs5⟩ := st5
          exact ⟨_, _, _, _, _, _, _, _, _, _, _, rfl, (s6.trans s7).seq hs5⟩
    · rintro σ H2 ⟨y1, y2, y3, y4, y5, y6, y7, y8, y9, y10, y11, rfl, hS2⟩
      exact q _
end
end My
namespace My
open PySem L2 SX
theorem all_mk {l : PySem.W.OpenLaw} {w : World} {K : PySem.W.Frag} {h : Heap} {mg : Str → Option Value} {fa cC fI dT oE vA cA eA lA bA kT kL kE kN kS kM kF kO kC kQ lF lC lB lD lP lR lT lG lL lW lQ lU lJ fL : Addr} (X : K.In h) (G : h.Ns mainGlobals mg) (hfa : mg "law" = some (.ref fa))
    {odkT ankT odkL ankL odkE ankE odkN ankN odkS ankS odkM ankM odkF ankF odkO ankO odkC ankC odkQ ankQ odlF anlF odlC anlC odlB anlB odlD anlD odlP anlP odlR anlR odlT anlT odlG anlG odlL anlL odlW anlW odlQ anlQ odlU anlU odlJ anlJ odlaw anlaw odIC anIC : Option Addr} {slkT slkL slkE slkN slkS slkM slkF slkO slkC slkQ sllF sllC sllB sllD sllP sllR sllT sllG sllL sllW sllQ sllU sllJ sllaw slIC : Array (Option Value)} {ockT kVkT dckT pmkT cdkT ctkT ockL kVkL dckL pmkL cdkL ctkL ockE kVkE dckE pmkE cdkE ctkE ockN kVkN dckN pmkN cdkN ctkN ockS kVkS dckS pmkS cdkS ctkS ockM kVkM dckM pmkM cdkM ctkM ockF kVkF dckF pmkF cdkF ctkF ockO kVkO dckO pmkO cdkO ctkO ockC kVkC dckC pmkC cdkC ctkC ockQ kVkQ dckQ pmkQ cdkQ ctkQ oclF kVlF dclF pmlF cdlF ctlF oclC kVlC dclC pmlC cdlC ctlC oclB kVlB dclB pmlB cdlB ctlB oclD kVlD dclD pmlD cdlD ctlD oclP kVlP dclP pmlP cdlP ctlP oclR kVlR dclR pmlR cdlR ctlR oclT kVlT dclT pmlT cdlT ctlT oclG kVlG dclG pmlG cdlG ctlG oclL kVlL dclL pmlL cdlL ctlL oclW kVlW dclW pmlW cdlW ctlW oclQ kVlQ dclQ pmlQ cdlQ ctlQ oclU kVlU dclU pmlU cdlU ctlU oclJ kVlJ dclJ pmlJ cdlJ ctlJ oclaw kVlaw dclaw pmlaw cdlaw ctlaw ocIC kVIC dcIC pmIC cdIC ctIC : Value}
    {tvconst tvload tvsave tvpop tvnot tvadd tvitem tvset_item tvlist tvmap tvcall tvinvoke tvsuper tvclosure tvdeclare tvblank tvdrop tvclass tvmethod tviter tvfield tvset_field tvleave tvret tvraise : Addr} {ddconst ddload ddsave ddpop ddnot ddadd dditem ddset_item ddlist ddmap ddcall ddinvoke ddsuper ddclosure dddeclare ddblank dddrop ddclass ddmethod dditer ddfield ddset_field ddleave ddret ddraise ddE ddL ddB ddT ddO : Option Addr} {itsconst itsload itssave itspop itsnot itsadd itsitem itsset_item itslist itsmap itscall itsinvoke itssuper itsclosure itsdeclare itsblank itsdrop itsclass itsmethod itsiter itsfield itsset_field itsleave itsret itsraise itsE itsL itsB itsT itsO : Array Value} {nnconst nnload nnsave nnpop nnnot nnadd nnitem nnset_item nnlist nnmap nncall nninvoke nnsuper nnclosure nndeclare nnblank nndrop nnclass nnmethod nniter nnfield nnset_field nnleave nnret nnraise nnE nnL nnB nnT nnO nV nC : Nat} {osconst osload ossave ospop osnot osadd ositem osset_item oslist osmap oscall osinvoke ossuper osclosure osdeclare osblank osdrop osclass osmethod ositer osfield osset_field osleave osret osraise osE osL osB osT osO : Array (Option Value)} {ocT : Value} {esV esC : Array DictEntry} {tklist tkmap tkcall tkinvoke tksuper : Tok}
    (uC : PySem.W.nsIn K mainGlobals "Chunk" = some (some (.ref cC)))
    (mkC : PySem.W.makesIn K cC = true)
    (kcC : PySem.W.keepIn K (.ref cC) = true)
    (pgC : PySem.W.plainGet K cC Str.empty = true)
    (hdC : PySem.W.hasDictIn K cC = true)
    (poC : PySem.W.plainOver K cC = true)
    (saC : PySem.W.findIn K (.ref cC) "__setattr__" = some (some (.builtin "object.__setattr__")))
    (nC_number : PySem.W.findIn K (.ref cC) "number" = some none)
    (nC_wanted : PySem.W.findIn K (.ref cC) "wanted" = some none)
    (nC_rows : PySem.W.findIn K (.ref cC) "rows" = some none)
    (nC_scopes : PySem.W.findIn K (.ref cC) "scopes" = some none)
    (aIC : PySem.W.findIn K (.ref cC) "__init__" = some (some (.ref fI)))
    (iIC : PySem.W.isFn K (.ref fI) = true)
    (lIC : K.lookup fI = some ⟨ocIC, odIC, .func (PySem.W.fnOf "__init__" "Chunk.__init__" (defArgs sIC) (defBody sIC) (defScope sIC) (.ref dT) kVIC dcIC pmIC anIC cdIC ctIC), slIC⟩)
    (cIC : PySem.W.codeIn K cdIC "Chunk.__init__" = true)
    (kIC : PySem.W.keepIn K (.ref fI) = true)
    (lDT : K.lookup dT = some ⟨ocT, ddT, .seq itsT nnT, osT⟩)
    (vDT : Vals [.ref oE] itsT.toList)
    (lDE : K.lookup oE = some ⟨.type "tuple", ddO, .seq itsO nnO, osO⟩)
    (vDE : Vals [] itsO.toList)
    (wDE : itsO.size ≤ sizeLine)
    (sV : PySem.W.nsIn K mainGlobals "VALUES" = some (some (.ref vA)))
    (lV : K.lookup vA = some ⟨.type "dict", none, .dict esV nV, #[]⟩)
    (kV : PySem.W.KeysLit w.params esV.toList)
    (oV : (vA == PySem.sysModules) = false)
    (sC : PySem.W.nsIn K mainGlobals "COUNTS" = some (some (.ref cA)))
    (lCo : K.lookup cA = some ⟨.type "dict", none, .dict esC nC, #[]⟩)
    (kCo : PySem.W.KeysLit w.params esC.toList)
    (oCo : (cA == PySem.sysModules) = false)
    (pconst : PySem.W.nsIn K vA "const" = some (some (.ref tvconst)))
    (qconst : K.lookup tvconst = some ⟨.type "tuple", ddconst, .seq itsconst nnconst, osconst⟩)
    (rconst : Vals [.int (0 : Nat), .int (1 : Nat)] itsconst.toList)
    (sconst : itsconst.size ≤ sizeLine)
    (cconst : PySem.W.nsIn K cA "const" = some none)
    (pload : PySem.W.nsIn K vA "load" = some (some (.ref tvload)))
    (qload : K.lookup tvload = some ⟨.type "tuple", ddload, .seq itsload nnload, osload⟩)
    (rload : Vals [.int (0 : Nat), .int (1 : Nat)] itsload.toList)
    (sload : itsload.size ≤ sizeLine)
    (cload : PySem.W.nsIn K cA "load" = some none)
    (psave : PySem.W.nsIn K vA "save" = some (some (.ref tvsave)))
    (qsave : K.lookup tvsave = some ⟨.type "tuple", ddsave, .seq itssave nnsave, ossave⟩)
    (rsave : Vals [.int (1 : Nat), .int (1 : Nat)] itssave.toList)
    (ssave : itssave.size ≤ sizeLine)
    (csave : PySem.W.nsIn K cA "save" = some none)
    (ppop : PySem.W.nsIn K vA "pop" = some (some (.ref tvpop)))
    (qpop : K.lookup tvpop = some ⟨.type "tuple", ddpop, .seq itspop nnpop, ospop⟩)
    (rpop : Vals [.int (1 : Nat), .int (0 : Nat)] itspop.toList)
    (spop : itspop.size ≤ sizeLine)
    (cpop : PySem.W.nsIn K cA "pop" = some none)
    (pnot : PySem.W.nsIn K vA "not" = some (some (.ref tvnot)))
    (qnot : K.lookup tvnot = some ⟨.type "tuple", ddnot, .seq itsnot nnnot, osnot⟩)
    (rnot : Vals [.int (1 : Nat), .int (1 : Nat)] itsnot.toList)
    (snot : itsnot.size ≤ sizeLine)
    (cnot : PySem.W.nsIn K cA "not" = some none)
    (padd : PySem.W.nsIn K vA "add" = some (some (.ref tvadd)))
    (qadd : K.lookup tvadd = some ⟨.type "tuple", ddadd, .seq itsadd nnadd, osadd⟩)
    (radd : Vals [.int (2 : Nat), .int (1 : Nat)] itsadd.toList)
    (sadd : itsadd.size ≤ sizeLine)
    (cadd : PySem.W.nsIn K cA "add" = some none)
    (pitem : PySem.W.nsIn K vA "item" = some (some (.ref tvitem)))
    (qitem : K.lookup tvitem = some ⟨.type "tuple", dditem, .seq itsitem nnitem, ositem⟩)
    (ritem : Vals [.int (2 : Nat), .int (1 : Nat)] itsitem.toList)
    (sitem : itsitem.size ≤ sizeLine)
    (citem : PySem.W.nsIn K cA "item" = some none)
    (pset_item : PySem.W.nsIn K vA "set_item" = some (some (.ref tvset_item)))
    (qset_item : K.lookup tvset_item = some ⟨.type "tuple", ddset_item, .seq itsset_item nnset_item, osset_item⟩)
    (rset_item : Vals [.int (3 : Nat), .int (1 : Nat)] itsset_item.toList)
    (sset_item : itsset_item.size ≤ sizeLine)
    (cset_item : PySem.W.nsIn K cA "set_item" = some none)
    (plist : PySem.W.nsIn K vA "list" = some (some (.ref tvlist)))
    (qlist : K.lookup tvlist = some ⟨.type "tuple", ddlist, .seq itslist nnlist, oslist⟩)
    (rlist : Vals [.int (0 : Nat), .int (1 : Nat)] itslist.toList)
    (slist : itslist.size ≤ sizeLine)
    (clist : PySem.W.nsIn K cA "list" = some (some (.int (1 : Nat) tklist)))
    (pmap : PySem.W.nsIn K vA "map" = some (some (.ref tvmap)))
    (qmap : K.lookup tvmap = some ⟨.type "tuple", ddmap, .seq itsmap nnmap, osmap⟩)
    (rmap : Vals [.int (0 : Nat), .int (1 : Nat)] itsmap.toList)
    (smap : itsmap.size ≤ sizeLine)
    (cmap : PySem.W.nsIn K cA "map" = some (some (.int (1 : Nat) tkmap)))
    (pcall : PySem.W.nsIn K vA "call" = some (some (.ref tvcall)))
    (qcall : K.lookup tvcall = some ⟨.type "tuple", ddcall, .seq itscall nncall, oscall⟩)
    (rcall : Vals [.int (1 : Nat), .int (1 : Nat)] itscall.toList)
    (scall : itscall.size ≤ sizeLine)
    (ccall : PySem.W.nsIn K cA "call" = some (some (.int (1 : Nat) tkcall)))
    (pinvoke : PySem.W.nsIn K vA "invoke" = some (some (.ref tvinvoke)))
    (qinvoke : K.lookup tvinvoke = some ⟨.type "tuple", ddinvoke, .seq itsinvoke nninvoke, osinvoke⟩)
    (rinvoke : Vals [.int (1 : Nat), .int (1 : Nat)] itsinvoke.toList)
    (sinvoke : itsinvoke.size ≤ sizeLine)
    (cinvoke : PySem.W.nsIn K cA "invoke" = some (some (.int (2 : Nat) tkinvoke)))
    (psuper : PySem.W.nsIn K vA "super" = some (some (.ref tvsuper)))
    (qsuper : K.lookup tvsuper = some ⟨.type "tuple", ddsuper, .seq itssuper nnsuper, ossuper⟩)
    (rsuper : Vals [.int (2 : Nat), .int (1 : Nat)] itssuper.toList)
    (ssuper : itssuper.size ≤ sizeLine)
    (csuper : PySem.W.nsIn K cA "super" = some (some (.int (2 : Nat) tksuper)))
    (pclosure : PySem.W.nsIn K vA "closure" = some (some (.ref tvclosure)))
    (qclosure : K.lookup tvclosure = some ⟨.type "tuple", ddclosure, .seq itsclosure nnclosure, osclosure⟩)
    (rclosure : Vals [.int (0 : Nat), .int (1 : Nat)] itsclosure.toList)
    (sclosure : itsclosure.size ≤ sizeLine)
    (cclosure : PySem.W.nsIn K cA "closure" = some none)
    (pdeclare : PySem.W.nsIn K vA "declare" = some (some (.ref tvdeclare)))
    (qdeclare : K.lookup tvdeclare = some ⟨.type "tuple", dddeclare, .seq itsdeclare nndeclare, osdeclare⟩)
    (rdeclare : Vals [.int (1 : Nat), .int (0 : Nat)] itsdeclare.toList)
    (sdeclare : itsdeclare.size ≤ sizeLine)
    (cdeclare : PySem.W.nsIn K cA "declare" = some none)
    (pblank : PySem.W.nsIn K vA "blank" = some (some (.ref tvblank)))
    (qblank : K.lookup tvblank = some ⟨.type "tuple", ddblank, .seq itsblank nnblank, osblank⟩)
    (rblank : Vals [.int (0 : Nat), .int (0 : Nat)] itsblank.toList)
    (sblank : itsblank.size ≤ sizeLine)
    (cblank : PySem.W.nsIn K cA "blank" = some none)
    (pdrop : PySem.W.nsIn K vA "drop" = some (some (.ref tvdrop)))
    (qdrop : K.lookup tvdrop = some ⟨.type "tuple", dddrop, .seq itsdrop nndrop, osdrop⟩)
    (rdrop : Vals [.int (0 : Nat), .int (0 : Nat)] itsdrop.toList)
    (sdrop : itsdrop.size ≤ sizeLine)
    (cdrop : PySem.W.nsIn K cA "drop" = some none)
    (pclass : PySem.W.nsIn K vA "class" = some (some (.ref tvclass)))
    (qclass : K.lookup tvclass = some ⟨.type "tuple", ddclass, .seq itsclass nnclass, osclass⟩)
    (rclass : Vals [.int (0 : Nat), .int (1 : Nat)] itsclass.toList)
    (sclass : itsclass.size ≤ sizeLine)
    (cclass : PySem.W.nsIn K cA "class" = some none)
    (pmethod : PySem.W.nsIn K vA "method" = some (some (.ref tvmethod)))
    (qmethod : K.lookup tvmethod = some ⟨.type "tuple", ddmethod, .seq itsmethod nnmethod, osmethod⟩)
    (rmethod : Vals [.int (2 : Nat), .int (1 : Nat)] itsmethod.toList)
    (smethod : itsmethod.size ≤ sizeLine)
    (cmethod : PySem.W.nsIn K cA "method" = some none)
    (piter : PySem.W.nsIn K vA "iter" = some (some (.ref tviter)))
    (qiter : K.lookup tviter = some ⟨.type "tuple", dditer, .seq itsiter nniter, ositer⟩)
    (riter : Vals [.int (1 : Nat), .int (1 : Nat)] itsiter.toList)
    (siter : itsiter.size ≤ sizeLine)
    (citer : PySem.W.nsIn K cA "iter" = some none)
    (pfield : PySem.W.nsIn K vA "field" = some (some (.ref tvfield)))
    (qfield : K.lookup tvfield = some ⟨.type "tuple", ddfield, .seq itsfield nnfield, osfield⟩)
    (rfield : Vals [.int (1 : Nat), .int (1 : Nat)] itsfield.toList)
    (sfield : itsfield.size ≤ sizeLine)
    (cfield : PySem.W.nsIn K cA "field" = some none)
    (pset_field : PySem.W.nsIn K vA "set_field" = some (some (.ref tvset_field)))
    (qset_field : K.lookup tvset_field = some ⟨.type "tuple", ddset_field, .seq itsset_field nnset_field, osset_field⟩)
    (rset_field : Vals [.int (2 : Nat), .int (1 : Nat)] itsset_field.toList)
    (sset_field : itsset_field.size ≤ sizeLine)
    (cset_field : PySem.W.nsIn K cA "set_field" = some none)
    (pleave : PySem.W.nsIn K vA "leave" = some (some (.ref tvleave)))
    (qleave : K.lookup tvleave = some ⟨.type "tuple", ddleave, .seq itsleave nnleave, osleave⟩)
    (rleave : Vals [.int (0 : Nat), .int (0 : Nat)] itsleave.toList)
    (sleave : itsleave.size ≤ sizeLine)
    (cleave : PySem.W.nsIn K cA "leave" = some none)
    (pret : PySem.W.nsIn K vA "ret" = some (some (.ref tvret)))
    (qret : K.lookup tvret = some ⟨.type "tuple", ddret, .seq itsret nnret, osret⟩)
    (rret : Vals [.int (1 : Nat), .int (0 : Nat)] itsret.toList)
    (sret : itsret.size ≤ sizeLine)
    (cret : PySem.W.nsIn K cA "ret" = some none)
    (praise : PySem.W.nsIn K vA "raise" = some (some (.ref tvraise)))
    (qraise : K.lookup tvraise = some ⟨.type "tuple", ddraise, .seq itsraise nnraise, osraise⟩)
    (rraise : Vals [.int (1 : Nat), .int (0 : Nat)] itsraise.toList)
    (sraise : itsraise.size ≤ sizeLine)
    (craise : PySem.W.nsIn K cA "raise" = some none)
    (gE : PySem.W.nsIn K mainGlobals "ENDS" = some (some (.ref eA)))
    (hE : K.lookup eA = some ⟨.type "tuple", ddE, .seq itsE nnE, osE⟩)
    (iE : Vals [.str "raise", .str "ret"] itsE.toList)
    (jE : itsE.size ≤ sizeLine)
    (gL : PySem.W.nsIn K mainGlobals "LEAPS" = some (some (.ref lA)))
    (hL : K.lookup lA = some ⟨.type "tuple", ddL, .seq itsL nnL, osL⟩)
    (iL : Vals [.str "jump", .str "escape"] itsL.toList)
    (jL : itsL.size ≤ sizeLine)
    (gB : PySem.W.nsIn K mainGlobals "BRANCHES" = some (some (.ref bA)))
    (hB : K.lookup bA = some ⟨.type "tuple", ddB, .seq itsB nnB, osB⟩)
    (iB : Vals [.str "jump", .str "unless", .str "both", .str "either", .str "next", .str "enter", .str "escape"] itsB.toList)
    (jB : itsB.size ≤ sizeLine)
    (akT : PySem.W.nsIn K mainGlobals "values_taken" = some (some (.ref kT)))
    (lkT : K.lookup kT = some ⟨ockT, odkT, .func (PySem.W.fnOf "values_taken" "values_taken" (defArgs sTaken) (defBody sTaken) (defScope sTaken) .none kVkT dckT pmkT ankT cdkT ctkT), slkT⟩)
    (ckT : PySem.W.codeIn K cdkT "values_taken" = true)
    (kkT : PySem.W.keepIn K (.ref kT) = true)
    (akL : PySem.W.nsIn K mainGlobals "handlers_left" = some (some (.ref kL)))
    (lkL : K.lookup kL = some ⟨ockL, odkL, .func (PySem.W.fnOf "handlers_left" "handlers_left" (defArgs sLeft) (defBody sLeft) (defScope sLeft) .none kVkL dckL pmkL ankL cdkL ctkL), slkL⟩)
    (ckL : PySem.W.codeIn K cdkL "handlers_left" = true)
    (kkL : PySem.W.keepIn K (.ref kL) = true)
    (akE : PySem.W.nsIn K mainGlobals "variables_ended" = some (some (.ref kE)))
    (lkE : K.lookup kE = some ⟨ockE, odkE, .func (PySem.W.fnOf "variables_ended" "variables_ended" (defArgs sEnded) (defBody sEnded) (defScope sEnded) .none kVkE dckE pmkE ankE cdkE ctkE), slkE⟩)
    (ckE : PySem.W.codeIn K cdkE "variables_ended" = true)
    (kkE : PySem.W.keepIn K (.ref kE) = true)
    (akN : PySem.W.nsIn K mainGlobals "variables_needed" = some (some (.ref kN)))
    (lkN : K.lookup kN = some ⟨ockN, odkN, .func (PySem.W.fnOf "variables_needed" "variables_needed" (defArgs sNeeded) (defBody sNeeded) (defScope sNeeded) .none kVkN dckN pmkN ankN cdkN ctkN), slkN⟩)
    (ckN : PySem.W.codeIn K cdkN "variables_needed" = true)
    (kkN : PySem.W.keepIn K (.ref kN) = true)
    (akS : PySem.W.nsIn K mainGlobals "shape_behind" = some (some (.ref kS)))
    (lkS : K.lookup kS = some ⟨ockS, odkS, .func (PySem.W.fnOf "shape_behind" "shape_behind" (defArgs sBehind) (defBody sBehind) (defScope sBehind) .none kVkS dckS pmkS ankS cdkS ctkS), slkS⟩)
    (ckS : PySem.W.codeIn K cdkS "shape_behind" = true)
    (kkS : PySem.W.keepIn K (.ref kS) = true)
    (akM : PySem.W.nsIn K mainGlobals "functions_made" = some (some (.ref kM)))
    (lkM : K.lookup kM = some ⟨ockM, odkM, .func (PySem.W.fnOf "functions_made" "functions_made" (defArgs sMade) (defBody sMade) (defScope sMade) .none kVkM dckM pmkM ankM cdkM ctkM), slkM⟩)
    (ckM : PySem.W.codeIn K cdkM "functions_made" = true)
    (kkM : PySem.W.keepIn K (.ref kM) = true)
    (akF : PySem.W.nsIn K mainGlobals "fault_of" = some (some (.ref kF)))
    (lkF : K.lookup kF = some ⟨ockF, odkF, .func (PySem.W.fnOf "fault_of" "fault_of" (defArgs sFault) (defBody sFault) (defScope sFault) .none kVkF dckF pmkF ankF cdkF ctkF), slkF⟩)
    (ckF : PySem.W.codeIn K cdkF "fault_of" = true)
    (kkF : PySem.W.keepIn K (.ref kF) = true)
    (akO : PySem.W.nsIn K mainGlobals "following" = some (some (.ref kO)))
    (lkO : K.lookup kO = some ⟨ockO, odkO, .func (PySem.W.fnOf "following" "following" (defArgs sFollow) (defBody sFollow) (defScope sFollow) .none kVkO dckO pmkO ankO cdkO ctkO), slkO⟩)
    (ckO : PySem.W.codeIn K cdkO "following" = true)
    (kkO : PySem.W.keepIn K (.ref kO) = true)
    (akC : PySem.W.nsIn K mainGlobals "check_function" = some (some (.ref kC)))
    (lkC : K.lookup kC = some ⟨ockC, odkC, .func (PySem.W.fnOf "check_function" "check_function" (defArgs sCheck) (defBody sCheck) (defScope sCheck) .none kVkC dckC pmkC ankC cdkC ctkC), slkC⟩)
    (ckC : PySem.W.codeIn K cdkC "check_function" = true)
    (kkC : PySem.W.keepIn K (.ref kC) = true)
    (akQ : PySem.W.nsIn K mainGlobals "flaws_of_functions" = some (some (.ref kQ)))
    (lkQ : K.lookup kQ = some ⟨ockQ, odkQ, .func (PySem.W.fnOf "flaws_of_functions" "flaws_of_functions" (defArgs sFof) (defBody sFof) (defScope sFof) .none kVkQ dckQ pmkQ ankQ cdkQ ctkQ), slkQ⟩)
    (ckQ : PySem.W.codeIn K cdkQ "flaws_of_functions" = true)
    (kkQ : PySem.W.keepIn K (.ref kQ) = true)
    (alF : PySem.W.nsIn K mainGlobals "flaws_of" = some (some (.ref lF)))
    (llF : K.lookup lF = some ⟨oclF, odlF, .func (PySem.W.fnOf "flaws_of" "flaws_of" (defArgs sFlaws) (defBody sFlaws) (defScope sFlaws) .none kVlF dclF pmlF anlF cdlF ctlF), sllF⟩)
    (clF : PySem.W.codeIn K cdlF "flaws_of" = true)
    (klF : PySem.W.keepIn K (.ref lF) = true)
    (alC : PySem.W.nsIn K mainGlobals "_law_cell" = some (some (.ref lC)))
    (llC : K.lookup lC = some ⟨oclC, odlC, .func (PySem.W.fnOf "_law_cell" "_law_cell" (defArgs sCell) (defBody sCell) (defScope sCell) .none kVlC dclC pmlC anlC cdlC ctlC), sllC⟩)
    (clC : PySem.W.codeIn K cdlC "_law_cell" = true)
    (klC : PySem.W.keepIn K (.ref lC) = true)
    (alB : PySem.W.nsIn K mainGlobals "_law_begin" = some (some (.ref lB)))
    (llB : K.lookup lB = some ⟨oclB, odlB, .func (PySem.W.fnOf "_law_begin" "_law_begin" (defArgs sBegin) (defBody sBegin) (defScope sBegin) .none kVlB dclB pmlB anlB cdlB ctlB), sllB⟩)
    (clB : PySem.W.codeIn K cdlB "_law_begin" = true)
    (klB : PySem.W.keepIn K (.ref lB) = true)
    (alD : PySem.W.nsIn K mainGlobals "_law_draw" = some (some (.ref lD)))
    (llD : K.lookup lD = some ⟨oclD, odlD, .func (PySem.W.fnOf "_law_draw" "_law_draw" (defArgs sDraw) (defBody sDraw) (defScope sDraw) .none kVlD dclD pmlD anlD cdlD ctlD), sllD⟩)
    (clD : PySem.W.codeIn K cdlD "_law_draw" = true)
    (klD : PySem.W.keepIn K (.ref lD) = true)
    (alP : PySem.W.nsIn K mainGlobals "_law_pick" = some (some (.ref lP)))
    (llP : K.lookup lP = some ⟨oclP, odlP, .func (PySem.W.fnOf "_law_pick" "_law_pick" (defArgs sPick) (defBody sPick) (defScope sPick) .none kVlP dclP pmlP anlP cdlP ctlP), sllP⟩)
    (clP : PySem.W.codeIn K cdlP "_law_pick" = true)
    (klP : PySem.W.keepIn K (.ref lP) = true)
    (alR : PySem.W.nsIn K mainGlobals "_law_row" = some (some (.ref lR)))
    (llR : K.lookup lR = some ⟨oclR, odlR, .func (PySem.W.fnOf "_law_row" "_law_row" (defArgs sLRow) (defBody sLRow) (defScope sLRow) .none kVlR dclR pmlR anlR cdlR ctlR), sllR⟩)
    (clR : PySem.W.codeIn K cdlR "_law_row" = true)
    (klR : PySem.W.keepIn K (.ref lR) = true)
    (alT : PySem.W.nsIn K mainGlobals "_law_takes" = some (some (.ref lT)))
    (llT : K.lookup lT = some ⟨oclT, odlT, .func (PySem.W.fnOf "_law_takes" "_law_takes" (defArgs sLTakes) (defBody sLTakes) (defScope sLTakes) .none kVlT dclT pmlT anlT cdlT ctlT), sllT⟩)
    (clT : PySem.W.codeIn K cdlT "_law_takes" = true)
    (klT : PySem.W.keepIn K (.ref lT) = true)
    (alG : PySem.W.nsIn K mainGlobals "_law_gives" = some (some (.ref lG)))
    (llG : K.lookup lG = some ⟨oclG, odlG, .func (PySem.W.fnOf "_law_gives" "_law_gives" (defArgs sLGives) (defBody sLGives) (defScope sLGives) .none kVlG dclG pmlG anlG cdlG ctlG), sllG⟩)
    (clG : PySem.W.codeIn K cdlG "_law_gives" = true)
    (klG : PySem.W.keepIn K (.ref lG) = true)
    (alL : PySem.W.nsIn K mainGlobals "_law_lacks" = some (some (.ref lL)))
    (llL : K.lookup lL = some ⟨oclL, odlL, .func (PySem.W.fnOf "_law_lacks" "_law_lacks" (defArgs sLacks) (defBody sLacks) (defScope sLacks) .none kVlL dclL pmlL anlL cdlL ctlL), sllL⟩)
    (clL : PySem.W.codeIn K cdlL "_law_lacks" = true)
    (klL : PySem.W.keepIn K (.ref lL) = true)
    (alW : PySem.W.nsIn K mainGlobals "_law_walk" = some (some (.ref lW)))
    (llW : K.lookup lW = some ⟨oclW, odlW, .func (PySem.W.fnOf "_law_walk" "_law_walk" (defArgs sLWalk) (defBody sLWalk) (defScope sLWalk) .none kVlW dclW pmlW anlW cdlW ctlW), sllW⟩)
    (clW : PySem.W.codeIn K cdlW "_law_walk" = true)
    (klW : PySem.W.keepIn K (.ref lW) = true)
    (alQ : PySem.W.nsIn K mainGlobals "_law_queue" = some (some (.ref lQ)))
    (llQ : K.lookup lQ = some ⟨oclQ, odlQ, .func (PySem.W.fnOf "_law_queue" "_law_queue" (defArgs sLQueue) (defBody sLQueue) (defScope sLQueue) .none kVlQ dclQ pmlQ anlQ cdlQ ctlQ), sllQ⟩)
    (clQ : PySem.W.codeIn K cdlQ "_law_queue" = true)
    (klQ : PySem.W.keepIn K (.ref lQ) = true)
    (alU : PySem.W.nsIn K mainGlobals "_law_due" = some (some (.ref lU)))
    (llU : K.lookup lU = some ⟨oclU, odlU, .func (PySem.W.fnOf "_law_due" "_law_due" (defArgs sLDue) (defBody sLDue) (defScope sLDue) .none kVlU dclU pmlU anlU cdlU ctlU), sllU⟩)
    (clU : PySem.W.codeIn K cdlU "_law_due" = true)
    (klU : PySem.W.keepIn K (.ref lU) = true)
    (alJ : PySem.W.nsIn K mainGlobals "_law_is_integer" = some (some (.ref lJ)))
    (llJ : K.lookup lJ = some ⟨oclJ, odlJ, .func (PySem.W.fnOf "_law_is_integer" "_law_is_integer" (defArgs sIsInteger) (defBody sIsInteger) (defScope sIsInteger) .none kVlJ dclJ pmlJ anlJ cdlJ ctlJ), sllJ⟩)
    (clJ : PySem.W.codeIn K cdlJ "_law_is_integer" = true)
    (klJ : PySem.W.keepIn K (.ref lJ) = true)
    (alaw : PySem.W.nsIn K mainGlobals "law" = some (some (.ref fL)))
    (llaw : K.lookup fL = some ⟨oclaw, odlaw, .func (PySem.W.fnOf "law" "law" (defArgs sLaw) (defBody sLaw) (defScope sLaw) .none kVlaw dclaw pmlaw anlaw cdlaw ctlaw), sllaw⟩)
    (claw : PySem.W.codeIn K cdlaw "law" = true)
    (klaw : PySem.W.keepIn K (.ref fL) = true)
    (zrange : PySem.W.nsIn K mainGlobals "range" = some none)
    (zlen : PySem.W.nsIn K mainGlobals "len" = some none)
    (zint : PySem.W.nsIn K mainGlobals "int" = some none)
    (zbool : PySem.W.nsIn K mainGlobals "bool" = some none)
    (zisinstance : PySem.W.nsIn K mainGlobals "isinstance" = some none)
    (zlist : PySem.W.nsIn K mainGlobals "list" = some none)
    (zabs : PySem.W.nsIn K mainGlobals "abs" = some none)
    (zmin : PySem.W.nsIn K mainGlobals "min" = some none)
    (zmax : PySem.W.nsIn K mainGlobals "max" = some none)
    (ztuple : PySem.W.nsIn K mainGlobals "tuple" = some none)
    : ∃ fd : FuncData, (∀ (s : Shared) (v : Value), BindsTo s fd ⟨[v], []⟩ [("script", v)]) ∧ ∀ base : Heap, K.In base → base.Ns mainGlobals mg → FnOk l.prog w K mg base CX0 7 fa fd ["script"] (spLaw K) := by
  have e := hfa.symm.trans (PySem.W.mg_of X G alaw)
  cases e
  have B : Bl mg := ⟨PySem.W.mg_none_of X G zrange, PySem.W.mg_none_of X G zlen, PySem.W.mg_none_of X G zint, PySem.W.mg_none_of X G zbool, PySem.W.mg_none_of X G zisinstance, PySem.W.mg_none_of X G zlist, PySem.W.mg_none_of X G zabs, PySem.W.mg_none_of X G zmin, PySem.W.mg_none_of X G zmax⟩
  have FkT := fun_mk (st := sTaken) lkT ckT kkT
  have bkT := FkT.binds (ps := ["row"]) fun _ _ _ _ _ _ us hl => match us, hl with | [_], _ => rfl
  have FkL := fun_mk (st := sLeft) lkL ckL kkL
  have bkL := FkL.binds (ps := ["row"]) fun _ _ _ _ _ _ us hl => match us, hl with | [_], _ => rfl
  have FkE := fun_mk (st := sEnded) lkE ckE kkE
  have bkE := FkE.binds (ps := ["row"]) fun _ _ _ _ _ _ us hl => match us, hl with | [_], _ => rfl
  have FkN := fun_mk (st := sNeeded) lkN ckN kkN
  have bkN := FkN.binds (ps := ["row"]) fun _ _ _ _ _ _ us hl => match us, hl with | [_], _ => rfl
  have FkS := fun_mk (st := sBehind) lkS ckS kkS
  have bkS := FkS.binds (ps := ["row", "shape"]) fun _ _ _ _ _ _ us hl => match us, hl with | [_, _], _ => rfl
  have FkM := fun_mk (st := sMade) lkM ckM kkM
  have bkM := FkM.binds (ps := ["rows", "shapes"]) fun _ _ _ _ _ _ us hl => match us, hl with | [_, _], _ => rfl
  have FkF := fun_mk (st := sFault) lkF ckF kkF
  have bkF := FkF.binds (ps := ["row", "shape", "by_number"]) fun _ _ _ _ _ _ us hl => match us, hl with | [_, _, _], _ => rfl
  have FkO := fun_mk (st := sFollow) lkO ckO kkO
  have bkO := FkO.binds (ps := ["row", "index", "shape"]) fun _ _ _ _ _ _ us hl => match us, hl with | [_, _, _], _ => rfl
  have FkC := fun_mk (st := sCheck) lkC ckC kkC
  have bkC := FkC.binds (ps := ["by_number", "number", "variables"]) fun _ _ _ _ _ _ us hl => match us, hl with | [_, _, _], _ => rfl
  have FkQ := fun_mk (st := sFof) lkQ ckQ kkQ
  have bkQ := FkQ.binds (ps := ["by_number"]) fun _ _ _ _ _ _ us hl => match us, hl with | [_], _ => rfl
  have FlF := fun_mk (st := sFlaws) llF clF klF
  have blF := FlF.binds (ps := ["chunks"]) fun _ _ _ _ _ _ us hl => match us, hl with | [_], _ => rfl
  have FlC := fun_mk (st := sCell) llC clC klC
  have blC := FlC.binds (ps := ["script", "k"]) fun _ _ _ _ _ _ us hl => match us, hl with | [_, _], _ => rfl
  have FlB := fun_mk (st := sBegin) llB clB klB
  have blB := FlB.binds (ps := ["script", "k"]) fun _ _ _ _ _ _ us hl => match us, hl with | [_, _], _ => rfl
  have FlD := fun_mk (st := sDraw) llD clD klD
  have blD := FlD.binds (ps := ["state", "many"]) fun _ _ _ _ _ _ us hl => match us, hl with | [_, _], _ => rfl
  have FlP := fun_mk (st := sPick) llP clP klP
  have blP := FlP.binds (ps := ["state", "row"]) fun _ _ _ _ _ _ us hl => match us, hl with | [_, _], _ => rfl
  have FlR := fun_mk (st := sLRow) llR clR klR
  have blR := FlR.binds (ps := ["state", "many"]) fun _ _ _ _ _ _ us hl => match us, hl with | [_, _], _ => rfl
  have FlT := fun_mk (st := sLTakes) llT clT klT
  have blT := FlT.binds (ps := ["row"]) fun _ _ _ _ _ _ us hl => match us, hl with | [_], _ => rfl
  have FlG := fun_mk (st := sLGives) llG clG klG
  have blG := FlG.binds (ps := ["row"]) fun _ _ _ _ _ _ us hl => match us, hl with | [_], _ => rfl
  have FlL := fun_mk (st := sLacks) llL clL klL
  have blL := FlL.binds (ps := ["chunks", "row", "stack", "variables"]) fun _ _ _ _ _ _ us hl => match us, hl with | [_, _, _, _], _ => rfl
  have FlW := fun_mk (st := sLWalk) llW clW klW
  have blW := FlW.binds (ps := ["chunks", "chunk", "variables"]) fun _ _ _ _ _ _ us hl => match us, hl with | [_, _, _], _ => rfl
  have FlQ := fun_mk (st := sLQueue) llQ clQ klQ
  have blQ := FlQ.binds (ps := ["chunks"]) fun _ _ _ _ _ _ us hl => match us, hl with | [_], _ => rfl
  have FlU := fun_mk (st := sLDue) llU clU klU
  have blU := FlU.binds (ps := ["chunks"]) fun _ _ _ _ _ _ us hl => match us, hl with | [_], _ => rfl
  have FlJ := fun_mk (st := sIsInteger) llJ clJ klJ
  have blJ := FlJ.binds (ps := ["told"]) fun _ _ _ _ _ _ us hl => match us, hl with | [_], _ => rfl
  have Flaw := fun_mk (st := sLaw) llaw claw klaw
  have FI : FunD K "__init__" "Chunk.__init__" (defArgs sIC) (defBody sIC) (defScope sIC) [.ref oE] [] fI (PySem.W.fnOf "__init__" "Chunk.__init__" (defArgs sIC) (defBody sIC) (defScope sIC) (.ref dT) kVIC dcIC pmIC anIC cdIC ctIC) := ⟨⟨_, _, _, _, _, _, _, _, _, _, rfl, lIC, cIC, .inr ⟨by simp, dT, _, itsT.toList, nnT, rfl, lDT, rfl, vDT⟩, .inl rfl⟩, kIC⟩
  obtain ⟨ds, dI, bI⟩ := FI.binds1 (ps := ["self", "number", "wanted", "rows", "scopes"]) 4 0 (by simp) rfl (fun T kV doc pm an cdv ct us its h1 h2 => match us, its, h1, h2 with | [_, _, _, _], [_], _, _ => ⟨_, rfl, rfl⟩)
  have tV : ∀ r : Row, ∃ a, PySem.W.nsIn K vA r.wd = some (some (.ref a)) ∧ ∀ H, SqT K H a [.int (r.v0 : Nat), .int (r.gives : Nat)] := fun r => match r with | .const _ => ⟨_, pconst, fun H => .inr ⟨_, _, _, qconst, rfl, rfl, sconst, rconst⟩⟩ | .load _ => ⟨_, pload, fun H => .inr ⟨_, _, _, qload, rfl, rfl, sload, rload⟩⟩ | .save _ => ⟨_, psave, fun H => .inr ⟨_, _, _, qsave, rfl, rfl, ssave, rsave⟩⟩ | .pop => ⟨_, ppop, fun H => .inr ⟨_, _, _, qpop, rfl, rfl, spop, rpop⟩⟩ | .notO => ⟨_, pnot, fun H => .inr ⟨_, _, _, qnot, rfl, rfl, snot, rnot⟩⟩ | .add => ⟨_, padd, fun H => .inr ⟨_, _, _, qadd, rfl, rfl, sadd, radd⟩⟩ | .item => ⟨_, pitem, fun H => .inr ⟨_, _, _, qitem, rfl, rfl, sitem, ritem⟩⟩ | .setItem => ⟨_, pset_item, fun H => .inr ⟨_, _, _, qset_item, rfl, rfl, sset_item, rset_item⟩⟩ | .list _ => ⟨_, plist, fun H => .inr ⟨_, _, _, qlist, rfl, rfl, slist, rlist⟩⟩ | .map _ => ⟨_, pmap, fun H => .inr ⟨_, _, _, qmap, rfl, rfl, smap, rmap⟩⟩ | .call _ => ⟨_, pcall, fun H => .inr ⟨_, _, _, qcall, rfl, rfl, scall, rcall⟩⟩ | .invoke _ => ⟨_, pinvoke, fun H => .inr ⟨_, _, _, qinvoke, rfl, rfl, sinvoke, rinvoke⟩⟩ | .sup => ⟨_, psuper, fun H => .inr ⟨_, _, _, qsuper, rfl, rfl, ssuper, rsuper⟩⟩ | .closure _ _ => ⟨_, pclosure, fun H => .inr ⟨_, _, _, qclosure, rfl, rfl, sclosure, rclosure⟩⟩ | .declare => ⟨_, pdeclare, fun H => .inr ⟨_, _, _, qdeclare, rfl, rfl, sdeclare, rdeclare⟩⟩ | .blank => ⟨_, pblank, fun H => .inr ⟨_, _, _, qblank, rfl, rfl, sblank, rblank⟩⟩ | .drop _ => ⟨_, pdrop, fun H => .inr ⟨_, _, _, qdrop, rfl, rfl, sdrop, rdrop⟩⟩ | .klass => ⟨_, pclass, fun H => .inr ⟨_, _, _, qclass, rfl, rfl, sclass, rclass⟩⟩ | .method => ⟨_, pmethod, fun H => .inr ⟨_, _, _, qmethod, rfl, rfl, smethod, rmethod⟩⟩ | .iter => ⟨_, piter, fun H => .inr ⟨_, _, _, qiter, rfl, rfl, siter, riter⟩⟩ | .field => ⟨_, pfield, fun H => .inr ⟨_, _, _, qfield, rfl, rfl, sfield, rfield⟩⟩ | .setField => ⟨_, pset_field, fun H => .inr ⟨_, _, _, qset_field, rfl, rfl, sset_field, rset_field⟩⟩ | .leave => ⟨_, pleave, fun H => .inr ⟨_, _, _, qleave, rfl, rfl, sleave, rleave⟩⟩ | .ret => ⟨_, pret, fun H => .inr ⟨_, _, _, qret, rfl, rfl, sret, rret⟩⟩ | .raise => ⟨_, praise, fun H => .inr ⟨_, _, _, qraise, rfl, rfl, sraise, rraise⟩⟩
  have tC : ∀ r : Row, match r.ci with | none => PySem.W.nsIn K cA r.wd = some none | some c => ∃ t, PySem.W.nsIn K cA r.wd = some (some (.int (c : Nat) t)) := fun r => match r with | .const _ => cconst | .load _ => cload | .save _ => csave | .pop => cpop | .notO => cnot | .add => cadd | .item => citem | .setItem => cset_item | .list _ => ⟨_, clist⟩ | .map _ => ⟨_, cmap⟩ | .call _ => ⟨_, ccall⟩ | .invoke _ => ⟨_, cinvoke⟩ | .sup => ⟨_, csuper⟩ | .closure _ _ => cclosure | .declare => cdeclare | .blank => cblank | .drop _ => cdrop | .klass => cclass | .method => cmethod | .iter => citer | .field => cfield | .setField => cset_field | .leave => cleave | .ret => cret | .raise => craise
  have T : Tb K mg w vA cA eA lA bA := ⟨PySem.W.mg_of X G sV, PySem.W.mg_of X G sC, PySem.W.mg_of X G gE, PySem.W.mg_of X G gL, PySem.W.mg_of X G gB, ⟨_, _, ⟨lV, kV, oV⟩⟩, ⟨_, _, ⟨lCo, kCo, oCo⟩⟩, tV, tC, fun H => .inr ⟨_, _, _, hE, rfl, rfl, jE, iE⟩, fun H => .inr ⟨_, _, _, hL, rfl, rfl, jL, iL⟩, fun H => .inr ⟨_, _, _, hB, rfl, rfl, jB, iB⟩⟩
  have C : Cc K mg cC := ⟨⟨pgC, hdC, poC, saC⟩, nC_number, nC_wanted, nC_rows, nC_scopes, PySem.W.mg_of X G uC⟩
  have D : Pd K mg kT kL kE kN _ _ _ _ := ⟨FkT, bkT, PySem.W.mg_of X G akT, FkL, bkL, PySem.W.mg_of X G akL, FkE, bkE, PySem.W.mg_of X G akE, FkN, bkN, PySem.W.mg_of X G akN⟩
  have E2 : Pc K mg kS kM kF kO _ _ _ _ := ⟨FkS, bkS, PySem.W.mg_of X G akS, FkM, bkM, PySem.W.mg_of X G akM, FkF, bkF, PySem.W.mg_of X G akF, FkO, bkO, PySem.W.mg_of X G akO⟩
  have L1 : Lx K mg lC lB lD _ _ _ := ⟨FlC, blC, PySem.W.mg_of X G alC, FlB, blB, PySem.W.mg_of X G alB, FlD, blD, PySem.W.mg_of X G alD⟩
  have L2 : Ld K mg lT lG _ _ := ⟨FlT, blT, PySem.W.mg_of X G alT, FlG, blG, PySem.W.mg_of X G alG⟩
  exact ⟨PySem.W.fnOf "law" "law" (defArgs sLaw) (defBody sLaw) (defScope sLaw) .none kVlaw dclaw pmlaw anlaw cdlaw ctlaw, fun s v => .of_eq rfl, fun base _ _ => ok_law Flaw B (PySem.W.mg_none_of X G ztuple) T C D E2 FkC bkC (PySem.W.mg_of X G akC) FkQ bkQ (PySem.W.mg_of X G akQ) FlF blF (PySem.W.mg_of X G alF) ⟨mkC, aIC, iIC, kcC⟩ FI bI dI (fun H => .inr ⟨_, _, _, lDE, rfl, rfl, wDE, vDE⟩) L1 FlP blP (PySem.W.mg_of X G alP) FlR blR (PySem.W.mg_of X G alR) L2 FlL blL (PySem.W.mg_of X G alL) FlW blW (PySem.W.mg_of X G alW) FlQ blQ (PySem.W.mg_of X G alQ) FlU blU (PySem.W.mg_of X G alU) FlJ blJ (PySem.W.mg_of X G alJ)⟩
end My
open PySem PySem.W PyProof.Rows
set_option maxRecDepth 100000 in
set_option maxHeartbeats 0 in
theorem PySem.Challenge.cw_livequill_k37_flaws_of_straight_code_holds : PySem.Challenge.rw_livequill_k37_flaws_of_straight_code.Holds := by
  w_on; o_law; k_head; (case hw => w_witness2)
  k_fill
  refine L2.walk_of (l := PySem.Challenge.rw_livequill_k37_flaws_of_straight_code) (n := 63) (k := 7) (x := "script") (CX := fun _ => L2.CX0) (sp := fun w => My.spLaw _) rfl (by decide) rfl ⟨rfl, by decide, by decide⟩ (fun w h Y => PySem.W.kIn_of Y) ?F (fun _ _ a ns hl _ hS => ⟨a, ns, rfl, hS, hl, fun _ => rfl⟩) (fun _ _ _ _ _ h => h)
  case F =>
    intro w mg fa h KX G hmg
    refine' My.all_mk KX G hmg ?uC ?mkC ?kcC ?pgC ?hdC ?poC ?saC ?nC_number ?nC_wanted ?nC_rows ?nC_scopes ?aIC ?iIC ?lIC ?cIC ?kIC ?lDT ?vDT ?lDE ?vDE ?wDE ?sV ?lV ?kV ?oV ?sC ?lCo ?kCo ?oCo ?pconst ?qconst ?rconst ?sconst ?cconst ?pload ?qload ?rload ?sload ?cload ?psave ?qsave ?rsave ?ssave ?csave ?ppop ?qpop ?rpop ?spop ?cpop ?pnot ?qnot ?rnot ?snot ?cnot ?padd ?qadd ?radd ?sadd ?cadd ?pitem ?qitem ?ritem ?sitem ?citem ?pset_item ?qset_item ?rset_item ?sset_item ?cset_item ?plist ?qlist ?rlist ?slist ?clist ?pmap ?qmap ?rmap ?smap ?cmap ?pcall ?qcall ?rcall ?scall ?ccall ?pinvoke ?qinvoke ?rinvoke ?sinvoke ?cinvoke ?psuper ?qsuper ?rsuper ?ssuper ?csuper ?pclosure ?qclosure ?rclosure ?sclosure ?cclosure ?pdeclare ?qdeclare ?rdeclare ?sdeclare ?cdeclare ?pblank ?qblank ?rblank ?sblank ?cblank ?pdrop ?qdrop ?rdrop ?sdrop ?cdrop ?pclass ?qclass ?rclass ?sclass ?cclass ?pmethod ?qmethod ?rmethod ?smethod ?cmethod ?piter ?qiter ?riter ?siter ?citer ?pfield ?qfield ?rfield ?sfield ?cfield ?pset_field ?qset_field ?rset_field ?sset_field ?cset_field ?pleave ?qleave ?rleave ?sleave ?cleave ?pret ?qret ?rret ?sret ?cret ?praise ?qraise ?rraise ?sraise ?craise ?gE ?hE ?iE ?jE ?gL ?hL ?iL ?jL ?gB ?hB ?iB ?jB ?akT ?lkT ?ckT ?kkT ?akL ?lkL ?ckL ?kkL ?akE ?lkE ?ckE ?kkE ?akN ?lkN ?ckN ?kkN ?akS ?lkS ?ckS ?kkS ?akM ?lkM ?ckM ?kkM ?akF ?lkF ?ckF ?kkF ?akO ?lkO ?ckO ?kkO ?akC ?lkC ?ckC ?kkC ?akQ ?lkQ ?ckQ ?kkQ ?alF ?llF ?clF ?klF ?alC ?llC ?clC ?klC ?alB ?llB ?clB ?klB ?alD ?llD ?clD ?klD ?alP ?llP ?clP ?klP ?alR ?llR ?clR ?klR ?alT ?llT ?clT ?klT ?alG ?llG ?clG ?klG ?alL ?llL ?clL ?klL ?alW ?llW ?clW ?klW ?alQ ?llQ ?clQ ?klQ ?alU ?llU ?clU ?klU ?alJ ?llJ ?clJ ?klJ ?alaw ?llaw ?claw ?klaw ?zrange ?zlen ?zint ?zbool ?zisinstance ?zlist ?zabs ?zmin ?zmax ?ztuple
    (case uC => k_is)
    (case mkC => k_is)
    (case kcC => k_is)
    (case pgC => k_is)
    (case hdC => k_is)
    (case poC => k_is)
    (case saC => k_is)
    (case nC_number => k_is)
    (case nC_wanted => k_is)
    (case nC_rows => k_is)
    (case nC_scopes => k_is)
    (case aIC => k_is)
    (case iIC => k_is)
    (case lIC => k_is)
    (case cIC => k_is)
    (case kIC => k_is)
    (case lDT => k_is)
    (case vDT => exact PySem.Paired.cons rfl PySem.Paired.nil)
    (case lDE => k_is)
    (case vDE => exact PySem.Paired.nil)
    (case wDE => (rw [sizeLine_eq]; decide))
    (case sV => k_is)
    (case lV => k_is)
    (case kV => repeat' (first | exact trivial | refine ⟨⟨_, _, rfl, rfl⟩, ?_⟩))
    (case oV => first | rfl | decide | k_is)
    (case sC => k_is)
    (case lCo => k_is)
    (case kCo => repeat' (first | exact trivial | refine ⟨⟨_, _, rfl, rfl⟩, ?_⟩))
    (case oCo => first | rfl | decide | k_is)
    (case pconst => k_is)
    (case qconst => k_is)
    (case rconst => repeat (first | exact PySem.Paired.nil | refine PySem.Paired.cons ⟨_, rfl⟩ ?_))
    (case sconst => (rw [sizeLine_eq]; decide))
    (case cconst => k_is)
    (case pload => k_is)
    (case qload => k_is)
    (case rload => repeat (first | exact PySem.Paired.nil | refine PySem.Paired.cons ⟨_, rfl⟩ ?_))
    (case sload => (rw [sizeLine_eq]; decide))
    (case cload => k_is)
    (case psave => k_is)
    (case qsave => k_is)
    (case rsave => repeat (first | exact PySem.Paired.nil | refine PySem.Paired.cons ⟨_, rfl⟩ ?_))
    (case ssave => (rw [sizeLine_eq]; decide))
    (case csave => k_is)
    (case ppop => k_is)
    (case qpop => k_is)
    (case rpop => repeat (first | exact PySem.Paired.nil | refine PySem.Paired.cons ⟨_, rfl⟩ ?_))
    (case spop => (rw [sizeLine_eq]; decide))
    (case cpop => k_is)
    (case pnot => k_is)
    (case qnot => k_is)
    (case rnot => repeat (first | exact PySem.Paired.nil | refine PySem.Paired.cons ⟨_, rfl⟩ ?_))
    (case snot => (rw [sizeLine_eq]; decide))
    (case cnot => k_is)
    (case padd => k_is)
    (case qadd => k_is)
    (case radd => repeat (first | exact PySem.Paired.nil | refine PySem.Paired.cons ⟨_, rfl⟩ ?_))
    (case sadd => (rw [sizeLine_eq]; decide))
    (case cadd => k_is)
    (case pitem => k_is)
    (case qitem => k_is)
    (case ritem => repeat (first | exact PySem.Paired.nil | refine PySem.Paired.cons ⟨_, rfl⟩ ?_))
    (case sitem => (rw [sizeLine_eq]; decide))
    (case citem => k_is)
    (case pset_item => k_is)
    (case qset_item => k_is)
    (case rset_item => repeat (first | exact PySem.Paired.nil | refine PySem.Paired.cons ⟨_, rfl⟩ ?_))
    (case sset_item => (rw [sizeLine_eq]; decide))
    (case cset_item => k_is)
    (case plist => k_is)
    (case qlist => k_is)
    (case rlist => repeat (first | exact PySem.Paired.nil | refine PySem.Paired.cons ⟨_, rfl⟩ ?_))
    (case slist => (rw [sizeLine_eq]; decide))
    (case clist => k_is)
    (case pmap => k_is)
    (case qmap => k_is)
    (case rmap => repeat (first | exact PySem.Paired.nil | refine PySem.Paired.cons ⟨_, rfl⟩ ?_))
    (case smap => (rw [sizeLine_eq]; decide))
    (case cmap => k_is)
    (case pcall => k_is)
    (case qcall => k_is)
    (case rcall => repeat (first | exact PySem.Paired.nil | refine PySem.Paired.cons ⟨_, rfl⟩ ?_))
    (case scall => (rw [sizeLine_eq]; decide))
    (case ccall => k_is)
    (case pinvoke => k_is)
    (case qinvoke => k_is)
    (case rinvoke => repeat (first | exact PySem.Paired.nil | refine PySem.Paired.cons ⟨_, rfl⟩ ?_))
    (case sinvoke => (rw [sizeLine_eq]; decide))
    (case cinvoke => k_is)
    (case psuper => k_is)
    (case qsuper => k_is)
    (case rsuper => repeat (first | exact PySem.Paired.nil | refine PySem.Paired.cons ⟨_, rfl⟩ ?_))
    (case ssuper => (rw [sizeLine_eq]; decide))
    (case csuper => k_is)
    (case pclosure => k_is)
    (case qclosure => k_is)
    (case rclosure => repeat (first | exact PySem.Paired.nil | refine PySem.Paired.cons ⟨_, rfl⟩ ?_))
    (case sclosure => (rw [sizeLine_eq]; decide))
    (case cclosure => k_is)
    (case pdeclare => k_is)
    (case qdeclare => k_is)
    (case rdeclare => repeat (first | exact PySem.Paired.nil | refine PySem.Paired.cons ⟨_, rfl⟩ ?_))
    (case sdeclare => (rw [sizeLine_eq]; decide))
    (case cdeclare => k_is)
    (case pblank => k_is)
    (case qblank => k_is)
    (case rblank => repeat (first | exact PySem.Paired.nil | refine PySem.Paired.cons ⟨_, rfl⟩ ?_))
    (case sblank => (rw [sizeLine_eq]; decide))
    (case cblank => k_is)
    (case pdrop => k_is)
    (case qdrop => k_is)
    (case rdrop => repeat (first | exact PySem.Paired.nil | refine PySem.Paired.cons ⟨_, rfl⟩ ?_))
    (case sdrop => (rw [sizeLine_eq]; decide))
    (case cdrop => k_is)
    (case pclass => k_is)
    (case qclass => k_is)
    (case rclass => repeat (first | exact PySem.Paired.nil | refine PySem.Paired.cons ⟨_, rfl⟩ ?_))
    (case sclass => (rw [sizeLine_eq]; decide))
    (case cclass => k_is)
    (case pmethod => k_is)
    (case qmethod => k_is)
    (case rmethod => repeat (first | exact PySem.Paired.nil | refine PySem.Paired.cons ⟨_, rfl⟩ ?_))
    (case smethod => (rw [sizeLine_eq]; decide))
    (case cmethod => k_is)
    (case piter => k_is)
    (case qiter => k_is)
    (case riter => repeat (first | exact PySem.Paired.nil | refine PySem.Paired.cons ⟨_, rfl⟩ ?_))
    (case siter => (rw [sizeLine_eq]; decide))
    (case citer => k_is)
    (case pfield => k_is)
    (case qfield => k_is)
    (case rfield => repeat (first | exact PySem.Paired.nil | refine PySem.Paired.cons ⟨_, rfl⟩ ?_))
    (case sfield => (rw [sizeLine_eq]; decide))
    (case cfield => k_is)
    (case pset_field => k_is)
    (case qset_field => k_is)
    (case rset_field => repeat (first | exact PySem.Paired.nil | refine PySem.Paired.cons ⟨_, rfl⟩ ?_))
    (case sset_field => (rw [sizeLine_eq]; decide))
    (case cset_field => k_is)
    (case pleave => k_is)
    (case qleave => k_is)
    (case rleave => repeat (first | exact PySem.Paired.nil | refine PySem.Paired.cons ⟨_, rfl⟩ ?_))
    (case sleave => (rw [sizeLine_eq]; decide))
    (case cleave => k_is)
    (case pret => k_is)
    (case qret => k_is)
    (case rret => repeat (first | exact PySem.Paired.nil | refine PySem.Paired.cons ⟨_, rfl⟩ ?_))
    (case sret => (rw [sizeLine_eq]; decide))
    (case cret => k_is)
    (case praise => k_is)
    (case qraise => k_is)
    (case rraise => repeat (first | exact PySem.Paired.nil | refine PySem.Paired.cons ⟨_, rfl⟩ ?_))
    (case sraise => (rw [sizeLine_eq]; decide))
    (case craise => k_is)
    (case gE => k_is)
    (case hE => k_is)
    (case iE => repeat (first | exact PySem.Paired.nil | refine PySem.Paired.cons ⟨_, rfl⟩ ?_))
    (case jE => (rw [sizeLine_eq]; decide))
    (case gL => k_is)
    (case hL => k_is)
    (case iL => repeat (first | exact PySem.Paired.nil | refine PySem.Paired.cons ⟨_, rfl⟩ ?_))
    (case jL => (rw [sizeLine_eq]; decide))
    (case gB => k_is)
    (case hB => k_is)
    (case iB => repeat (first | exact PySem.Paired.nil | refine PySem.Paired.cons ⟨_, rfl⟩ ?_))
    (case jB => (rw [sizeLine_eq]; decide))
    (case akT => k_is)
    (case lkT => k_is)
    (case ckT => k_is)
    (case kkT => k_is)
    (case akL => k_is)
    (case lkL => k_is)
    (case ckL => k_is)
    (case kkL => k_is)
    (case akE => k_is)
    (case lkE => k_is)
    (case ckE => k_is)
    (case kkE => k_is)
    (case akN => k_is)
    (case lkN => k_is)
    (case ckN => k_is)
    (case kkN => k_is)
    (case akS => k_is)
    (case lkS => k_is)
    (case ckS => k_is)
    (case kkS => k_is)
    (case akM => k_is)
    (case lkM => k_is)
    (case ckM => k_is)
    (case kkM => k_is)
    (case akF => k_is)
    (case lkF => k_is)
    (case ckF => k_is)
    (case kkF => k_is)
    (case akO => k_is)
    (case lkO => k_is)
    (case ckO => k_is)
    (case kkO => k_is)
    (case akC => k_is)
    (case lkC => k_is)
    (case ckC => k_is)
    (case kkC => k_is)
    (case akQ => k_is)
    (case lkQ => k_is)
    (case ckQ => k_is)
    (case kkQ => k_is)
    (case alF => k_is)
    (case llF => k_is)
    (case clF => k_is)
    (case klF => k_is)
    (case alC => k_is)
    (case llC => k_is)
    (case clC => k_is)
    (case klC => k_is)
    (case alB => k_is)
    (case llB => k_is)
    (case clB => k_is)
    (case klB => k_is)
    (case alD => k_is)
    (case llD => k_is)
    (case clD => k_is)
    (case klD => k_is)
    (case alP => k_is)
    (case llP => k_is)
    (case clP => k_is)
    (case klP => k_is)
    (case alR => k_is)
    (case llR => k_is)
    (case clR => k_is)
    (case klR => k_is)
    (case alT => k_is)
    (case llT => k_is)
    (case clT => k_is)
    (case klT => k_is)
    (case alG => k_is)
    (case llG => k_is)
    (case clG => k_is)
    (case klG => k_is)
    (case alL => k_is)
    (case llL => k_is)
    (case clL => k_is)
    (case klL => k_is)
    (case alW => k_is)
    (case llW => k_is)
    (case clW => k_is)
    (case klW => k_is)
    (case alQ => k_is)
    (case llQ => k_is)
    (case clQ => k_is)
    (case klQ => k_is)
    (case alU => k_is)
    (case llU => k_is)
    (case clU => k_is)
    (case klU => k_is)
    (case alJ => k_is)
    (case llJ => k_is)
    (case clJ => k_is)
    (case klJ => k_is)
    (case alaw => k_is)
    (case llaw => k_is)
    (case claw => k_is)
    (case klaw => k_is)
    (case zrange => k_is)
    (case zlen => k_is)
    (case zint => k_is)
    (case zbool => k_is)
    (case zisinstance => k_is)
    (case zlist => k_is)
    (case zabs => k_is)
    (case zmin => k_is)
    (case zmax => k_is)
    (case ztuple => k_is)
