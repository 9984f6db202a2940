import PyProof.Rows.All
import Wide.All
import OpenK.AllK
import Wide.FinOn
import HandS.ForMost
import HandS.StrMore
import HandS.IsInst
import HandS.Codes
import HandS.Flow
import HandS.More
import HandS.Walk
import HandS.Replace
import HandS.ReplaceLit
import HandS.Zip
import HandS.Star
import HandS.Small
import HandS.Wide
import HandS.Dict
import HandS.TupAny
import HandS.CallLocal
import PySem.Challenge.RW_livequill_k14_parts_of_trees
set_option Elab.async false
set_option linter.all false
set_option maxRecDepth 100000
/-! Trees as the law draws them and writes them: one relation for both. -/
namespace My
open PySem L2 SX
open C8 (pss_cut tCut cutS_slice pe_gc)
abbrev D := PyData
abbrev S' (x : List Nat) : Str := S x
/-- a a drawn term, b the number of the next function behind it, written at an offset: the text, the term with offsets -/
abbrev Rl := Int → D → Int → Int → List Nat → D → Prop
def tup (k : Str) (fs : List D) : D := .tuple (.str k :: fs)
def cs (x : String) : List Nat := x.toList.map Char.toNat
def len (s : List Nat) : Int := (s.length : Int)
def decC (i : Int) : List Nat := ((toString i : Str)).cps.toList
def escT (x : List Nat) : List Nat := x.flatMap fun c => if c = 92 then [92, 92] else if c = 34 then [92, 34] else if c = 10 then [92, 110] else [c]
def names6 : List (List Nat) := [cs "a", cs "b", cs "x1", cs "total", cs "f", cs "this"]
def texts7 : List (List Nat) := [[], cs "a b", [34], [92, 110], [10], cs "// x", cs "{}"]
inductive LeafW : D → Int → List Nat → D → Prop
  | name {x at_} : x ∈ names6 → LeafW (tup "name" [.int 0, .str (S x)]) at_ x (tup "name" [.int at_, .str (S x)])
  | int {i at_} : 0 ≤ i → i < 1000000000000 → LeafW (tup "int" [.int i]) at_ (decC i) (tup "int" [.int i])
  | text {x at_} : x ∈ texts7 → LeafW (tup "text" [.str (S x)]) at_ (34 :: (escT x ++ [34])) (tup "text" [.str (S x)])
  | null {at_} : LeafW (tup "null" []) at_ (cs "null") (tup "null" [])
  | bool {b : Bool} {at_} : LeafW (tup "bool" [.bool b]) at_ (if b = true then cs "true" else cs "false") (tup "bool" [.bool b])
def leafK (k : Str) : Bool := k == "name" || k == "int" || k == "text" || k == "null" || k == "bool"
def isLf : D → Bool
  | .tuple (.str k :: _) => leafK k
  | _ => false
/-- in parentheses unless it is a name or a constant -/
def InnW (E : Rl) : Rl := fun a d b at_ s d' => (isLf d = true ∧ E a d b at_ s d') ∨ (isLf d = false ∧ ∃ t, s = 40 :: (t ++ [41]) ∧ E a d b (at_ + 1) t d')
/-- one after another, with a separator between -/
inductive LW (E : Rl) (sep : List Nat) : Int → List D → Int → Int → List Nat → List D → Prop
  | nil {a at_} : LW E sep a [] a at_ [] []
  | snoc {a ds b at_ s ds' d c t d' sp} : LW E sep a ds b at_ s ds' → sp = (if ds = [] then [] else sep) → E b d c (at_ + len (s ++ sp)) t d' → LW E sep a (ds ++ [d]) c at_ (s ++ sp ++ t) (ds' ++ [d'])
/-- one after another, each with something behind it -/
inductive IW (E : Rl) (suf : List Nat) : Int → List D → Int → Int → List Nat → List D → Prop
  | nil {a at_} : IW E suf a [] a at_ [] []
  | snoc {a ds b at_ s ds' d c t d'} : IW E suf a ds b at_ s ds' → E b d c (at_ + len s) t d' → IW E suf a (ds ++ [d]) c at_ (s ++ t ++ suf) (ds' ++ [d'])
/-- the pairs of a map, behind its bracket -/
inductive PW2 (E : Rl) : Int → List D → Int → Int → List Nat → List D → Prop
  | nil {a at_} : PW2 E a [] a at_ [123] []
  | snoc {a ds b at_ s ds' k c t k' v e u v' sp} : PW2 E a ds b at_ s ds' → sp = (if ds = [] then [] else [44]) → E b k c (at_ + len (s ++ sp)) t k' → E c v e (at_ + len (s ++ sp ++ t ++ [58])) u v' →
      PW2 E a (ds ++ [.tuple [k, v]]) e at_ (s ++ sp ++ t ++ [58] ++ u) (ds' ++ [.tuple [k', v']])
/-- names in parentheses -/
def joinN : List (List Nat) → List Nat
  | [] => []
  | [x] => x
  | x :: r => x ++ [44] ++ joinN r
def headN (ps : List (List Nat)) : List Nat := 40 :: (joinN ps ++ [41])
def strsD (ps : List (List Nat)) : D := .tuple (ps.map fun x => .str (S x))
def abcd : List (List Nat) := [cs "a", cs "b", cs "c", cs "d"]
/-- a function's body: shown names in front of its block -/
inductive FunW (B : Rl) (pre shown : List (List Nat)) (off : Int) : Rl
  | mk {a body b at_ s body' j} : j ≤ 3 → B (a + 1) body b (at_ + len (headN (shown ++ abcd.take j))) s body' →
      FunW B pre shown off a (tup "function" [.int 0, .int a, strsD (pre ++ abcd.take j), body]) b at_ (headN (shown ++ abcd.take j) ++ s) (tup "function" [.int off, .int a, strsD (pre ++ abcd.take j), body'])
def signs12 : List (List Nat) := [cs "+", cs "-", cs "*", cs "/", cs "mod", cs "==", cs "!=", cs "<", cs "<=", cs ">", cs ">=", cs "is"]
inductive ExF (E B : Rl) : Rl
  | leaf {a d at_ s d'} : LeafW d at_ s d' → ExF E B a d a at_ s d'
  | unary {a e b at_ s e' x} : x ∈ [cs "-", cs "not"] → InnW E a e b (at_ + len x + 1) s e' → ExF E B a (tup "unary" [.int 0, .str (S x), e]) b at_ (x ++ [32] ++ s) (tup "unary" [.int at_, .str (S x), e'])
  | binary {a l b r c at_ s1 l' s2 r' x} : x ∈ signs12 → InnW E a l b at_ s1 l' → InnW E b r c (at_ + len s1 + 1 + len x + 1) s2 r' →
      ExF E B a (tup "binary" [.int 0, .str (S x), l, r]) c at_ (s1 ++ [32] ++ x ++ [32] ++ s2) (tup "binary" [.int (at_ + len s1 + 1), .str (S x), l', r'])
  | both {a l b r c at_ s1 l' s2 r'} : InnW E a l b at_ s1 l' → InnW E b r c (at_ + len s1 + 3 + 2) s2 r' →
      ExF E B a (tup "both" [l, r]) c at_ (s1 ++ [32] ++ cs "and" ++ [32] ++ s2) (tup "both" [l', r'])
  | either {a l b r c at_ s1 l' s2 r'} : InnW E a l b at_ s1 l' → InnW E b r c (at_ + len s1 + 2 + 2) s2 r' →
      ExF E B a (tup "either" [l, r]) c at_ (s1 ++ [32] ++ cs "or" ++ [32] ++ s2) (tup "either" [l', r'])
  | list {a es b at_ s es'} : es.length ≤ 3 → LW E (cs " ,") a es b (at_ + 1) s es' → ExF E B a (tup "list" [.tuple es]) b at_ ([91] ++ s ++ [93]) (tup "list" [.tuple es'])
  | map {a ps b at_ s ps'} : ps.length ≤ 2 → PW2 E a ps b at_ s ps' → ExF E B a (tup "map" [.int 0, .tuple ps]) b at_ (s ++ [125]) (tup "map" [.int at_, .tuple ps'])
  | super {a es b at_ s es'} : es.length ≤ 2 → LW E (cs " ,") a es b (at_ + 7 + 1) s es' →
      ExF E B a (tup "super" [.int 0, .str "x", .tuple es]) b at_ (cs "super.x" ++ [40] ++ s ++ [41]) (tup "super" [.int at_, .str "x", .tuple es'])
  | fn {a d b at_ s d'} : FunW B [] [] at_ a d b (at_ + 3) s d' → ExF E B a d b at_ (cs "fun" ++ s) d'
  | assign {a e b at_ s e' x} : x ∈ [cs "a", cs "b", cs "x1"] → E a e b (at_ + len x + 1) s e' → ExF E B a (tup "assign" [.int 0, .str (S x), e]) b at_ (x ++ [61] ++ s) (tup "assign" [.int at_, .str (S x), e'])
  | call {a l b es c at_ s1 l' s2 es'} : es.length ≤ 2 → InnW E a l b at_ s1 l' → LW E (cs " ,") b es c (at_ + len s1 + 1) s2 es' →
      ExF E B a (tup "call" [.int 0, l, .tuple es]) c at_ (s1 ++ [40] ++ s2 ++ [41]) (tup "call" [.int (at_ + len s1), l', .tuple es'])
  | index {a l b i c at_ s1 l' s2 i'} : InnW E a l b at_ s1 l' → E b i c (at_ + len s1 + 1) s2 i' →
      ExF E B a (tup "index" [.int 0, l, i]) c at_ (s1 ++ [91] ++ s2 ++ [93]) (tup "index" [.int (at_ + len s1), l', i'])
  | setIndex {a l b i c e f at_ s1 l' s2 i' s3 e'} : InnW E a l b at_ s1 l' → E b i c (at_ + len s1 + 1) s2 i' → E c e f (at_ + len (s1 ++ [91] ++ s2 ++ [93]) + 1) s3 e' →
      ExF E B a (tup "set_index" [.int 0, l, i, e]) f at_ (s1 ++ [91] ++ s2 ++ [93] ++ [61] ++ s3) (tup "set_index" [.int (at_ + len s1), l', i', e'])
  | field {a l b at_ s1 l' x} : x ∈ [cs "x", cs "size"] → InnW E a l b at_ s1 l' → ExF E B a (tup "field" [.int 0, l, .str (S x)]) b at_ (s1 ++ [46] ++ x) (tup "field" [.int (at_ + len s1), l', .str (S x)])
  | invoke {a l b es c at_ s1 l' s2 es' x} : x ∈ [cs "push", cs "x"] → es.length ≤ 2 → InnW E a l b at_ s1 l' → LW E (cs " ,") b es c (at_ + len (s1 ++ [46] ++ x) + 1) s2 es' →
      ExF E B a (tup "invoke" [.int 0, l, .str (S x), .tuple es]) c at_ (s1 ++ [46] ++ x ++ [40] ++ s2 ++ [41]) (tup "invoke" [.int (at_ + len s1), l', .str (S x), .tuple es'])
  | setField {a l b e c at_ s1 l' s2 e'} : InnW E a l b at_ s1 l' → E b e c (at_ + len (s1 ++ [46] ++ cs "x") + 1) s2 e' →
      ExF E B a (tup "set_field" [.int 0, l, .str (S (cs "x")), e]) c at_ (s1 ++ [46] ++ cs "x" ++ [61] ++ s2) (tup "set_field" [.int (at_ + len s1), l', .str (S (cs "x")), e'])
def dBlk (is : List D) : D := tup "block" [.tuple is]
inductive StF (E0 E S B : Rl) : Rl
  | do_ {a e b at_ s e'} : E0 a e b (at_ + 1) s e' → StF E0 E S B a (tup "do" [e]) b at_ ([40] ++ s ++ cs ");") (tup "do" [e'])
  | block {a d b at_ s d'} : B a d b at_ s d' → StF E0 E S B a d b at_ s d'
  | brk {a at_} : StF E0 E S B a (tup "break" [.int 0]) a at_ (cs "break;") (tup "break" [.int at_])
  | cont {a at_} : StF E0 E S B a (tup "continue" [.int 0]) a at_ (cs "continue;") (tup "continue" [.int at_])
  | ret0 {a at_} : StF E0 E S B a (tup "return" [.int 0, tup "null" []]) a at_ (cs "return null;") (tup "return" [.int at_, tup "null" []])
  | ret {a e b at_ s e'} : E a e b (at_ + 6 + 1) s e' → StF E0 E S B a (tup "return" [.int 0, e]) b at_ (cs "return" ++ [32] ++ s ++ [59]) (tup "return" [.int at_, e'])
  | throw {a e b at_ s e'} : E a e b (at_ + 5 + 1) s e' → StF E0 E S B a (tup "throw" [.int 0, e]) b at_ (cs "throw" ++ [32] ++ s ++ [59]) (tup "throw" [.int at_, e'])
  | try_ {a d1 b d2 c at_ s1 d1' s2 d2'} : B a d1 b (at_ + 3) s1 d1' → B b d2 c (at_ + len (cs "try" ++ s1 ++ cs "catch(" ++ cs "e" ++ [41])) s2 d2' →
      StF E0 E S B a (tup "try" [.int 0, d1, .int 0, .str "e", d2]) c at_ (cs "try" ++ s1 ++ cs "catch(" ++ cs "e" ++ [41] ++ s2)
        (tup "try" [.int at_, d1', .int (at_ + len (cs "try" ++ s1 ++ cs "catch(" ++ cs "e" ++ [41]) - 1 - 1), .str "e", d2'])
  | while_ {a e b st c at_ s1 e' s2 st'} : E a e b (at_ + 6) s1 e' → S b st c (at_ + len (cs "while(" ++ s1 ++ [41])) s2 st' →
      StF E0 E S B a (tup "while" [.int 0, e, st]) c at_ (cs "while(" ++ s1 ++ [41] ++ s2) (tup "while" [.int at_, e', st'])
  | for_ {a e b st c at_ s1 e' s2 st'} : E a e b (at_ + 9) s1 e' → S b st c (at_ + len (cs "for(e in " ++ s1 ++ [41])) s2 st' →
      StF E0 E S B a (tup "for" [.int 0, .int 0, .str "e", e, st]) c at_ (cs "for(e in " ++ s1 ++ [41] ++ s2) (tup "for" [.int at_, .int (at_ + 4), .str "e", e', st'])
  | if1 {a e b st c at_ s1 e' s2 st'} : E a e b (at_ + 3) s1 e' → S b st c (at_ + len (cs "if(" ++ s1 ++ [41])) s2 st' →
      StF E0 E S B a (tup "if" [.int 0, e, st, .none]) c at_ (cs "if(" ++ s1 ++ [41] ++ s2 ++ cs " else " ++ cs "{}") (tup "if" [.int at_, e', st', .none])
  | if2 {a e b st c o f at_ s1 e' s2 st' s3 o'} : E a e b (at_ + 3) s1 e' → S b st c (at_ + len (cs "if(" ++ s1 ++ [41])) s2 st' → o ≠ dBlk [] → S c o f (at_ + len (cs "if(" ++ s1 ++ [41] ++ s2 ++ cs " else ")) s3 o' →
      StF E0 E S B a (tup "if" [.int 0, e, st, o]) f at_ (cs "if(" ++ s1 ++ [41] ++ s2 ++ cs " else " ++ s3) (tup "if" [.int at_, e', st', o'])
/-- the methods of a class, behind what stands in front of them -/
inductive MtW (B : Rl) (pre : List Nat) : Int → List D → Int → Int → List Nat → List D → Prop
  | nil {a at_} : MtW B pre a [] a at_ pre []
  | snoc {a ds b at_ s ds' x d c t d'} : x ∈ [cs "init", cs "x", cs "size"] → MtW B pre a ds b at_ s ds' → FunW B [cs "this"] [] (at_ + len s) b d c (at_ + len s + len x) t d' →
      MtW B pre a (ds ++ [.tuple [.str (S x), d]]) c at_ (s ++ x ++ t) (ds' ++ [.tuple [.str (S x), d']])
def classHead (p : Bool) : List Nat := cs "class A" ++ (if p = true then cs " extends B" else []) ++ [123]
inductive MemF (B : Rl) : Rl
  | fn {a d b at_ s d'} : FunW B [] [] at_ a d b (at_ + 4 + 1) s d' → MemF B a (.tuple [.int 0, .str "f", d]) b at_ (cs "fun f" ++ s) (.tuple [.int (at_ + 4), .str "f", d'])
  | cls {a ms b at_ s ms' p} : ms.length ≤ 3 → MtW B (classHead p) a ms b at_ s ms' →
      MemF B a (.tuple [.int 0, .str "A", tup "class" [.int 0, .str "A", (if p = true then tup "name" [.int 0, .str "B"] else .none), .tuple ms]]) b at_ (s ++ [125])
        (.tuple [.int (at_ + 6), .str "A", tup "class" [.int at_, .str "A", (if p = true then tup "name" [.int (at_ + 16), .str "B"] else .none), .tuple ms']])
inductive ItF (E S B : Rl) : Rl
  | let_ {a e b at_ s e' x} : x ∈ [cs "a", cs "b", cs "v2"] → E a e b (at_ + 4 + len x + 1) s e' → ItF E S B a (tup "let" [.int 0, .str (S' x), e]) b at_ (cs "let " ++ x ++ [61] ++ s ++ [59]) (tup "let" [.int (at_ + 4), .str (S' x), e'])
  | group {a ms b at_ s ms'} : 1 ≤ ms.length → ms.length ≤ 2 → IW (MemF B) [32] a ms b at_ s ms' → ItF E S B a (tup "group" [.tuple ms]) b at_ s (tup "group" [.tuple ms'])
  | st {a d b at_ s d'} : S a d b at_ s d' → ItF E S B a d b at_ s d'
def isGr : D → Bool
  | .tuple (.str k :: _) => k == "group"
  | _ => false
/-- no two groups in a row -/
def NoGG (ds : List D) : Prop := ∀ i a b, ds[i]? = some a → ds[i + 1]? = some b → isGr a = true → isGr b = true → False
inductive BlF (It : Rl) : Rl
  | mk {a is b at_ s is'} : is.length ≤ 3 → NoGG is → IW It [10] a is b (at_ + 1) s is' → BlF It a (dBlk is) b at_ ([123] ++ s ++ [125]) (dBlk is')
structure Lv where
  E : Rl
  S : Rl
  B : Rl
def noR : Rl := fun _ _ _ _ _ _ => False
def leafR : Rl := fun a d b at_ s d' => b = a ∧ LeafW d at_ s d'
def LV : Nat → Lv
  | 0 => ⟨leafR, StF leafR noR noR noR, BlF noR⟩
  | n + 1 =>
    let l := LV n
    let E := ExF l.E l.B
    let St := StF E l.E l.S l.B
    ⟨E, St, BlF (ItF l.E St l.B)⟩
/-- drawn: wherever it is written, it can be written -/
def Dr (R : Rl) (a : Int) (d : D) (b : Int) : Prop := ∀ at_, ∃ s d', R a d b at_ s d'
end My
namespace My
open PySem L2 SX
open C8 (pss_cut tCut cutS_slice pe_gc)
def top (i : Nat) : Stmt := PySem.Challenge.pw_livequill_k14_parts_of_trees.main.body.getD i (.Pass ⟨0, 0, 0, 0⟩)
abbrev sRows : Stmt := top 9
abbrev sDraw : Stmt := top 10
abbrev sLeaf : Stmt := top 11
abbrev sTerms : Stmt := top 12
abbrev sExpression : Stmt := top 13
abbrev sCompound : Stmt := top 14
abbrev sAssignment : Stmt := top 15
abbrev sFunction : Stmt := top 16
abbrev sBlock : Stmt := top 17
abbrev sItem : Stmt := top 18
abbrev sMember : Stmt := top 19
abbrev sStatement : Stmt := top 20
abbrev sConditional : Stmt := top 21
/-- the names of built-ins that are still the built-ins -/
structure Bl (mg : Str → Option Value) : Prop where
  range : mg "range" = none
  len : mg "len" = none
  int : mg "int" = none
  str : mg "str" = none
  isinstance : mg "isinstance" = none
  list : mg "list" = none
  tuple : mg "tuple" = none
  zip : mg "zip" = none
/-- all that is not at p stays -/
def Keep (p : Addr) (H H' : Hp) : Prop := ∀ b o, H b = some o → b ≠ p → H' b = some o
theorem Same.keep {p : Addr} {H H' : Hp} (s : Same H H') : Keep p H H' := fun b o e _ => s b o e
theorem Keep.rfl' {p : Addr} {H : Hp} : Keep p H H := fun _ _ e _ => e
theorem Keep.trans {p : Addr} {H H1 H2 : Hp} (a : Keep p H H1) (b : Keep p H1 H2) : Keep p H H2 := fun c o e n => b c o (a c o e n) n
theorem keep_upd {p : Addr} {H : Hp} {o : HO} : Keep p H (upd H p o) := fun b x e n => by
  rw [upd_ne n]
  exact e
theorem same_upd {H : Hp} {p : Addr} {o : HO} (h : H p = none) : Same H (upd H p o) := fun b x e => by
  rw [upd_ne (ne_of_none e h)]
  exact e
theorem Keep.lay {p y : Addr} {H H' : Hp} {o : HO} (k : Keep p H H') (h : H' y = none) : Keep p H (upd H' y o) := k.trans (Same.keep (same_upd h))
theorem at_ofN {α : Type} {xs : List α} {z : Int} {j : Nat} {v : α} (e : z = (j : Int)) (h : xs[j]? = some v) : atI xs z = some v := by
  rw [e]
  exact atI_nat h
/-! ### the state of the draws -/
def BIG : Int := 60000000000
def stK (r : Addr) (at_ num : Int) : List (Key × V) := [(.inr "rows", .ref r), (.inr "at", .int at_), (.inr "number", .int num)]
def SD (p : Addr) (at_ num : Int) (H : Hp) : Prop := ∃ (r : Addr) (rs : List Int), H p = some (.dK (stK r at_ num)) ∧ H r = some (.lst (rs.map V.int)) ∧ rs.length = 60 ∧ 0 ≤ at_
theorem SD.same {p : Addr} {at_ num : Int} {H H' : Hp} (s : Same H H') (h : SD p at_ num H) : SD p at_ num H' := by
  obtain ⟨r, rs, h1, h2, h3, h4⟩ := h
  exact ⟨r, rs, s _ _ h1, s _ _ h2, h3, h4⟩
theorem SD.lay {p y : Addr} {at_ num : Int} {H : Hp} {o : HO} (h : SD p at_ num H) (n : H y = none) : SD p at_ num (upd H y o) := h.same (same_upd n)
theorem st_rows (r : Addr) (a n : Int) : valV (stK r a n) (.inr "rows") = some (.ref r) := valV_pos rfl
theorem st_at (r : Addr) (a n : Int) : valV (stK r a n) (.inr "at") = some (.int a) := by
  unfold stK
  rw [valV_neg (show ¬ ((.inr "rows" : Key) = .inr "at") by decide +kernel)]
  exact valV_pos rfl
theorem st_num (r : Addr) (a n : Int) : valV (stK r a n) (.inr "number") = some (.int n) := by
  unfold stK
  rw [valV_neg (show ¬ ((.inr "rows" : Key) = .inr "number") by decide +kernel), valV_neg (show ¬ ((.inr "at" : Key) = .inr "number") by decide +kernel)]
  exact valV_pos rfl
theorem put_at (r : Addr) (a n b : Int) : putK (stK r a n) (.inr "at") (.int b) = stK r b n := by
  have h1 : ¬ ((.inr "rows" : Key) = .inr "at") := by decide +kernel
  have h2 : ¬ ((.inr "number" : Key) = .inr "at") := by decide +kernel
  unfold putK stK
  simp [h1, h2]
theorem put_num (r : Addr) (a n b : Int) : putK (stK r a n) (.inr "number") (.int b) = stK r a b := by
  have h1 : ¬ ((.inr "rows" : Key) = .inr "number") := by decide +kernel
  have h2 : ¬ ((.inr "at" : Key) = .inr "number") := by decide +kernel
  unfold putK stK
  simp [h1, h2]
/-! ### data that stays -/
theorem sqt_same {K : PySem.W.Frag} {H H' : Hp} {a : Addr} {xs : List V} (e : Same H H') (h : SqT K H a xs) : SqT K H' a xs := by
  rcases h with (h | ⟨o, h⟩) | h
  · exact .inl (.inl (e _ _ h))
  · exact .inl (.inr ⟨o, e _ _ h⟩)
  · exact .inr h
mutual
/-- data of tuples and scalars alone -/
inductive Tp (K : PySem.W.Frag) (H : Hp) : V → PyData → Prop
  | non : Tp K H .non .none
  | bl (b : Bool) : Tp K H (.bl b) (.bool b)
  | int (i : Int) : Tp K H (.int i) (.int i)
  | str (x : Str) : Tp K H (.str x) (.str x)
  | tup {a : Addr} {xs : List V} {ds : List PyData} : SqT K H a xs → TpAll K H xs ds → Tp K H (.ref a) (.tuple ds)
inductive TpAll (K : PySem.W.Frag) (H : Hp) : List V → List PyData → Prop
  | nil : TpAll K H [] []
  | cons {v : V} {vs : List V} {d : PyData} {ds : List PyData} : Tp K H v d → TpAll K H vs ds → TpAll K H (v :: vs) (d :: ds)
end
mutual
theorem Tp.dp {K : PySem.W.Frag} {H : Hp} : ∀ {v : V} {d : PyData}, Tp K H v d → Dp K H v d
  | _, _, .non => .non
  | _, _, .bl b => .bl b
  | _, _, .int i => .int i
  | _, _, .str x => .str x
  | _, _, .tup h a => .tup h (TpAll.dp a)
theorem TpAll.dp {K : PySem.W.Frag} {H : Hp} : ∀ {v : List V} {d : List PyData}, TpAll K H v d → DpAll K H v d
  | _, _, .nil => .nil
  | _, _, .cons h a => .cons (Tp.dp h) (TpAll.dp a)
end
/-- not a tuple -/
def NTup (H : Hp) (p : Addr) : Prop := (∀ xs, H p ≠ some (.tup xs)) ∧ ∀ o xs, H p ≠ some (.frz o (.tup xs))
theorem NTup.dict {H : Hp} {p : Addr} {kvs : List (Key × V)} (h : H p = some (.dK kvs)) : NTup H p := ⟨(fun xs e => by rw [h] at e; cases e), (fun o xs e => by rw [h] at e; cases e)⟩
theorem NTup.list {H : Hp} {p : Addr} {ys : List V} (h : H p = some (.lst ys)) : NTup H p := ⟨(fun xs e => by rw [h] at e; cases e), (fun o xs e => by rw [h] at e; cases e)⟩
theorem sqt_keep {K : PySem.W.Frag} {H H' : Hp} {a p : Addr} {xs : List V} (hk : Keep p H H') (hp : NTup H p) (h : SqT K H a xs) : SqT K H' a xs := by
  rcases h with (h | ⟨ob, h⟩) | h
  · exact .inl (.inl (hk _ _ h fun z => hp.1 _ (z ▸ h)))
  · exact .inl (.inr ⟨ob, hk _ _ h fun z => hp.2 _ _ (z ▸ h)⟩)
  · exact .inr h
mutual
theorem tp_same {K : PySem.W.Frag} {H H' : Hp} (s : Same H H') : ∀ {v : V} {d : PyData}, Tp K H v d → Tp K H' v d
  | _, _, .non => .non
  | _, _, .bl b => .bl b
  | _, _, .int i => .int i
  | _, _, .str x => .str x
  | _, _, .tup h a => .tup (sqt_same s h) (tpa_same s a)
theorem tpa_same {K : PySem.W.Frag} {H H' : Hp} (s : Same H H') : ∀ {v : List V} {d : List PyData}, TpAll K H v d → TpAll K H' v d
  | _, _, .nil => .nil
  | _, _, .cons h a => .cons (tp_same s h) (tpa_same s a)
end
mutual
theorem tp_keep {K : PySem.W.Frag} {H H' : Hp} {p : Addr} (s : Keep p H H') (hp : NTup H p) : ∀ {v : V} {d : PyData}, Tp K H v d → Tp K H' v d
  | _, _, .non => .non
  | _, _, .bl b => .bl b
  | _, _, .int i => .int i
  | _, _, .str x => .str x
  | _, _, .tup h a => .tup (sqt_keep s hp h) (tpa_keep s hp a)
theorem tpa_keep {K : PySem.W.Frag} {H H' : Hp} {p : Addr} (s : Keep p H H') (hp : NTup H p) : ∀ {v : List V} {d : List PyData}, TpAll K H v d → TpAll K H' v d
  | _, _, .nil => .nil
  | _, _, .cons h a => .cons (tp_keep s hp h) (tpa_keep s hp a)
end
theorem SD.ntup {H : Hp} {p : Addr} {a n : Int} (st : SD p a n H) : NTup H p := by
  obtain ⟨r, rs, h1, _⟩ := st
  exact .dict h1
theorem SD.tp {K : PySem.W.Frag} {H H' : Hp} {p : Addr} {a n : Int} (st : SD p a n H) (s : Keep p H H') {v : V} {d : PyData} (h : Tp K H v d) : Tp K H' v d := tp_keep s st.ntup h
theorem SD.tpa {K : PySem.W.Frag} {H H' : Hp} {p : Addr} {a n : Int} (st : SD p a n H) (s : Keep p H H') {v : List V} {d : List PyData} (h : TpAll K H v d) : TpAll K H' v d := tpa_keep s st.ntup h
theorem SD.sqt {K : PySem.W.Frag} {H H' : Hp} {p : Addr} {a n : Int} (st : SD p a n H) (s : Keep p H H') {q : Addr} {xs : List V} (h : SqT K H q xs) : SqT K H' q xs := sqt_keep s st.ntup h
/-- a change of one list -/
theorem tp_lst {K : PySem.W.Frag} {H : Hp} {l : Addr} {xs ys : List V} (hl : H l = some (.lst xs)) {v : V} {d : PyData} (h : Tp K H v d) : Tp K (upd H l (.lst ys)) v d := tp_keep keep_upd (.list hl) h
theorem tpa_lst {K : PySem.W.Frag} {H : Hp} {l : Addr} {xs ys : List V} (hl : H l = some (.lst xs)) {v : List V} {d : List PyData} (h : TpAll K H v d) : TpAll K (upd H l (.lst ys)) v d := tpa_keep keep_upd (.list hl) h
theorem tpa_snoc {K : PySem.W.Frag} {H : Hp} : ∀ {vs : List V} {ds : List PyData} {v : V} {d : PyData}, TpAll K H vs ds → Tp K H v d → TpAll K H (vs ++ [v]) (ds ++ [d])
  | _, _, _, _, .nil, h => .cons h .nil
  | _, _, _, _, .cons h0 a, h => .cons h0 (tpa_snoc a h)
theorem tpa_len {K : PySem.W.Frag} {H : Hp} : ∀ {vs : List V} {ds : List PyData}, TpAll K H vs ds → vs.length = ds.length
  | _, _, .nil => rfl
  | _, _, .cons _ a => congrArg (· + 1) (tpa_len a)
/-- a new tuple -/
theorem tp_new {K : PySem.W.Frag} {H : Hp} {y : Addr} {xs : List V} {ds : List PyData} (n : H y = none) (h : TpAll K H xs ds) : Tp K (upd H y (.tup xs)) (.ref y) (.tuple ds) := .tup (.inl (.inl upd_same)) (tpa_same (same_upd n) h)
/-- the state stays as a list of one's own, not the rows, changes -/
theorem SD.lst {p l : Addr} {a n : Int} {H : Hp} {xs ys : List V} (st : SD p a n H) (hl : H l = some (.lst xs)) (hn : ∀ rs : List Int, xs ≠ rs.map V.int ∨ rs.length ≠ 60) : SD p a n (upd H l (.lst ys)) := by
  obtain ⟨r, rs, h1, h2, h3, h4⟩ := st
  have n1 : p ≠ l := fun z => by rw [z, hl] at h1; cases h1
  have n2 : r ≠ l := fun z => by
    rw [z, hl] at h2
    have := Option.some.inj h2
    injection this with e
    rcases hn rs with h | h
    · exact h e
    · exact h h3
  exact ⟨r, rs, by rw [upd_ne n1]; exact h1, by rw [upd_ne n2]; exact h2, h3, h4⟩
theorem SD.short {p l : Addr} {a n : Int} {H : Hp} {xs ys : List V} (st : SD p a n H) (hl : H l = some (.lst xs)) (h : xs.length < 60) : SD p a n (upd H l (.lst ys)) := st.lst hl fun rs => by
  by_cases e : xs = rs.map V.int
  · right
    rw [e, List.length_map] at h
    omega
  · exact .inl e
/-- what a drawing function promises: the state goes on by c draws at most, the value is a drawn term -/
def spR (K : PySem.W.Frag) (args : List V) (R : Rl) (c : Int) : Sp := fun vs H Q _ => ∃ (p : Addr) (at_ num : Int), vs = .ref p :: args ∧ SD p at_ num H ∧ at_ + c ≤ BIG ∧
  ∀ H' v d at' num', Keep p H H' → SD p at' num' H' → at_ ≤ at' → at' ≤ at_ + c → Tp K H' v d → Dr R num d num' → Q v H'
section
variable {P : Program} {w : World} {K : PySem.W.Frag} {mg : Str → Option Value} {base : Heap}
/-! ### _law_rows -/
theorem scRows : FnScope ["script", "count", "rows", "k", "cell"] ["script", "count"] (defScope sRows) := ⟨rfl, rfl, rfl, by decide +kernel, rfl, by decide +kernel, by decide +kernel⟩
def spRows (K : PySem.W.Frag) : Sp := fun vs H Q _ => ∃ (a : Addr) (ns : List Int) (n : Nat), vs = [.ref a, .int (n : Int)] ∧ SqL K H a (ns.map V.int) ∧ ns.length ≤ 63 ∧ n ≤ 1000 ∧
  ∀ H' p (rs : List Int), Same H H' → H p = none → H' p = some (.lst (rs.map V.int)) → rs.length = n → Q (.ref p) H'
theorem ok_rows {f : Addr} {fd : FuncData} (F : Fun K "_law_rows" "_law_rows" sRows f fd) (B : Bl mg) : FnOk P w K mg base CX0 1 f fd ["script", "count"] (spRows K) := by
  refine F.ok scRows (fun vs H Q E h => ?_) (fun cdv A outer s H vs Q E hr h => ?_)
  · obtain ⟨a, ns, n, rfl, _⟩ := h
    rfl
  · obtain ⟨a, ns, n, rfl, hS, hlen, hn, q⟩ := h
    refine ⟨_, pss_cons (ps_set (i := 2) scRows.nd rfl (.inl rfl) (pe_lst pa_nil))
      (pss_cons (ps_for PassesOwn.never rfl (pi_range1 (by rfl) B.range (pa_cons (pv 1) pa_nil)) (pg_name (i := 3) scRows.nd rfl (.inl rfl))
        (pss_cons (ps_set (i := 4) scRows.nd rfl (.inl rfl) pe_int)
        (pss_cut (ps_if (pt_cmpR op_gt (pe_callB call_len_seq (by rfl) B.len PySem.boot_len (pa_cons (pv 0) pa_nil)) pe_int (nomark _))
          (pss_one (ps_set (i := 4) scRows.nd rfl (.inl rfl) (pe_callTy call_int1 (by rfl) B.int (by decide +kernel) (pa_cons
            (pe_ix ix_list (pv 0) (pe_op op_mod (pe_callTy call_int1 (by rfl) B.int (by decide +kernel) (pa_cons (pv 3) pa_nil)) (pe_callB call_len_seq (by rfl) B.len PySem.boot_len (pa_cons (pv 0) pa_nil))) (fun _ _ => rfl)) pa_nil)))) pss_nil)
        (pss_cut (ps_if (pt_cmpR op_lt (pv 4) pe_int (nomark _)) (pss_one (ps_set (i := 4) scRows.nd rfl (.inl rfl) (pe_op op_sub pe_int (pe_op op_mul pe_int (pv 4))))) pss_nil)
        (pss_cut (ps_if (PW.pt (pw_or (pt_cmpR op_ge (pv 3) (pe_callB call_len_seq (by rfl) B.len PySem.boot_len (pa_cons (pv 0) pa_nil)) (nomark _)) (pw_or1 (pt_cmpR op_lt (pv 4) pe_int (nomark _)))))
          (pss_cons (ps_set (i := 4) scRows.nd rfl (.inl rfl) (pe_op op_mod (pe_callTy call_int1 (by rfl) B.int (by decide +kernel) (pa_cons
              (pe_op op_add (pe_op op_mul (pe_op op_add (pe_op op_add (pv 4) (pe_op op_mul pe_int (pv 3))) pe_int) pe_int) (pe_op op_mul (pe_op op_mul (pv 3) (pv 3)) pe_int)) pa_nil)) pe_int))
          (pss_one (ps_set (i := 4) scRows.nd rfl (.inl rfl) (pe_op op_mod (pe_callTy call_int1 (by rfl) B.int (by decide +kernel) (pa_cons
              (pe_op op_mul (pe_op op_add (pe_op op_add (pv 4) (pe_op op_mul pe_int (pv 3))) pe_int) pe_int) pa_nil)) pe_int)))) pss_nil)
        (pss_one (ps_expr (pe_bm PySem.F.plainAttrs_list PySem.F.slot_list_append PySem.F.type_list_append mt_append (pv 2) (pa_cons (pv 4) pa_nil)))))))))
      (pss_one (ps_ret (pv 2)))), ?_⟩
    refine ⟨Nat.zero_le _, fun o no => ?_⟩
    refine ⟨_, rfl, (n : Int), rfl, by omega, by omega, for_range (n := (n : Int).toNat) (fun i σ H3 => ∃ (rs : List Int) (y3 y4 : Option V), σ = [some (.ref a), some (.int (n : Int)), some (.ref o), y3, y4] ∧ Same H H3 ∧ H3 o = some (.lst (rs.map V.int)) ∧ rs.length = i)
      ⟨[], none, none, rfl, same_upd no, upd_same, rfl⟩ ?_ ?_⟩
    · rintro i σ H3 hi ⟨rs, y3, y4, rfl, s3, eo, el⟩
      have hA : SqL K H3 a (ns.map V.int) := s3.seq hS
      have hi' : i < n := by omega
      have hz := sizeLine_eq
      let M : List (Option V) → Hp → Prop := fun σ' H' => ∃ cell : Int, σ' = [some (.ref a), some (.int (n : Int)), some (.ref o), some (.int (0 + (i : Int))), some (.int cell)] ∧ H' = H3
      have hk2 : -(2 ^ 64) < 0 + (i : Int) ∧ 0 + (i : Int) < 2 ^ 64 := ⟨by omega, by omega⟩
      -- if len(script) > 0: cell = int(script[int(k) % len(script)])
      refine ⟨M, ⟨_, rfl, a, _, rfl, .inl hA, _, _, rfl, rfl, _, rfl, ite2 (fun e => ?_) (fun _ => ⟨0, rfl, rfl⟩)⟩, ?_⟩
      · have e1 : (0 : Int) < ((ns.map V.int).length : Nat) := of_decide_eq_true e
        have e2 : 0 ≤ (0 + (i : Int)) % ((ns.map V.int).length : Nat) := Int.emod_nonneg _ (by omega)
        have e3 : (0 + (i : Int)) % ((ns.map V.int).length : Nat) < ((ns.map V.int).length : Nat) := Int.emod_lt_of_pos _ e1
        obtain ⟨j, ej⟩ : ∃ j : Nat, (0 + (i : Int)) % ((ns.map V.int).length : Nat) = (j : Int) := ⟨_, (Int.toNat_of_nonneg e2).symm⟩
        have hj : j < ns.length := by
          rw [ej, List.length_map] at e3
          omega
        refine ⟨_, rfl, _, rfl, .inl ⟨_, rfl, _, rfl, a, _, rfl, .inl hA, _, _, rfl, rfl, e1, a, _, _, V.int ns[j], rfl, rfl, hA, at_of ej ?_, .inl ⟨_, rfl, _, rfl, rfl⟩⟩⟩
        rw [List.getElem?_map, List.getElem?_eq_getElem hj]
        rfl
      rintro σ' H' ⟨cell, rfl, rfl⟩
      -- if cell < 0: cell = 1 - 2 * cell
      refine ⟨M, ⟨_, rfl, _, _, rfl, rfl, _, rfl, ite2 (fun _ => ?_) (fun _ => ⟨cell, rfl, rfl⟩)⟩, ?_⟩
      · exact ⟨_, rfl, _, _, rfl, rfl, .inl ⟨by decide, by decide⟩, _, _, rfl, rfl, _, rfl, rfl⟩
      rintro σ' H' ⟨cell, rfl, rfl⟩
      -- if k >= len(script) or cell < 1000000000: mixed
      refine ⟨M, ⟨_, rfl, _, rfl, a, _, rfl, .inl hA, _, _, rfl, rfl, _, rfl, ite2 (fun _ => iteT ?_) (fun _ => ⟨_, rfl, _, _, rfl, rfl, _, rfl, ite2 (fun _ => ?_) (fun _ => ⟨cell, rfl, rfl⟩)⟩)⟩, ?_⟩
      · refine ⟨_, rfl, _, rfl, _, _, rfl, rfl, .inl ⟨by decide, by decide⟩, _, _, rfl, rfl, _, _, rfl, rfl, _, _, rfl, rfl, .inr ⟨by decide, by decide⟩, _, rfl, _, rfl, _, _, rfl, rfl, .inl hk2, _, _, rfl, rfl, .inr ⟨by decide, by decide⟩, _, _, rfl, rfl, .inl ⟨_, rfl, _, _, rfl, rfl, (by show (0 : Int) < 1000000007; decide), ?_⟩⟩
        exact ⟨_, rfl, _, rfl, _, _, rfl, rfl, .inl ⟨by decide, by decide⟩, _, _, rfl, rfl, _, _, rfl, rfl, _, _, rfl, rfl, .inr ⟨by decide, by decide⟩, .inl ⟨_, rfl, _, _, rfl, rfl, (by show (0 : Int) < 18446744073709551557; decide), _, rfl, rfl⟩⟩
      · refine ⟨_, rfl, _, rfl, _, _, rfl, rfl, .inl ⟨by decide, by decide⟩, _, _, rfl, rfl, _, _, rfl, rfl, _, _, rfl, rfl, .inr ⟨by decide, by decide⟩, _, rfl, _, rfl, _, _, rfl, rfl, .inl hk2, _, _, rfl, rfl, .inr ⟨by decide, by decide⟩, _, _, rfl, rfl, .inl ⟨_, rfl, _, _, rfl, rfl, (by show (0 : Int) < 1000000007; decide), ?_⟩⟩
        exact ⟨_, rfl, _, rfl, _, _, rfl, rfl, .inl ⟨by decide, by decide⟩, _, _, rfl, rfl, _, _, rfl, rfl, _, _, rfl, rfl, .inr ⟨by decide, by decide⟩, .inl ⟨_, rfl, _, _, rfl, rfl, (by show (0 : Int) < 18446744073709551557; decide), _, rfl, rfl⟩⟩
      rintro σ' H' ⟨cell, rfl, rfl⟩
      -- rows.append(cell)
      refine ⟨_, rfl, .inl ⟨rfl, _, .inl (.inl eo)⟩, _, rfl, o, _, _, rfl, rfl, eo, ?_, rs ++ [cell], _, _, rfl, ?_, ?_, ?_⟩
      · rw [List.length_map]
        omega
      · exact fun b x e => by
          rw [upd_ne (ne_of_none e no)]
          exact s3 _ _ e
      · rw [upd_same, List.map_append]
        rfl
      · rw [List.length_append, el]
        rfl
    · rintro σ H3 ⟨rs, y3, y4, rfl, s3, eo, el⟩
      exact ⟨_, rfl, q H3 o rs s3 no eo (by omega)⟩
/-! ### _law_draw -/
theorem scDraw : FnScope ["state", "count", "row"] ["state", "count"] (defScope sDraw) := ⟨rfl, rfl, rfl, by decide +kernel, rfl, by decide +kernel, by decide +kernel⟩
def spDraw : Sp := fun vs H Q _ => ∃ (p : Addr) (at_ num count : Int), vs = [.ref p, .int count] ∧ SD p at_ num H ∧ 0 < count ∧ at_ + 1 ≤ BIG ∧ ∀ H' (i : Int), Keep p H H' → SD p (at_ + 1) num H' → 0 ≤ i → i < count → Q (.int i) H'
theorem ok_draw {f : Addr} {fd : FuncData} (F : Fun K "_law_draw" "_law_draw" sDraw f fd) (B : Bl mg) : FnOk P w K mg base CX0 1 f fd ["state", "count"] spDraw := by
  refine F.ok scDraw (fun vs H Q E h => ?_) (fun cdv A outer s H vs Q E hr h => ?_)
  · obtain ⟨p, a, n, c, rfl, _⟩ := h
    rfl
  · obtain ⟨p, a, n, c, rfl, ⟨r, rs, hp, hl, h60, ha⟩, hc, hb, q⟩ := h
    refine ⟨_, pss_cons (ps_set (i := 2) scDraw.nd rfl (.inl rfl) (pe_ix ix_list (pe_dget (hu_of hr) (pv 0) pe_str (fun _ _ => rfl)) (pe_op op_mod (pe_callTy call_int1 (by rfl) B.int (by decide +kernel) (pa_cons (pe_dget (hu_of hr) (pv 0) pe_str (fun _ _ => rfl)) pa_nil)) (pe_callB call_len_seq (by rfl) B.len PySem.boot_len (pa_cons (pe_dget (hu_of hr) (pv 0) pe_str (fun _ _ => rfl)) pa_nil))) (fun _ _ => rfl)))
      (pss_cons (ps_asg (pe_op op_add (pe_dget (hu_of hr) (pv 0) pe_str (fun _ _ => rfl)) pe_int) (pg_sub (pv 0) pe_str (set_dict (hu_of hr))))
      (pss_one (ps_ret (pe_op op_mod (pe_callTy call_int1 (by rfl) B.int (by decide +kernel) (pa_cons (pe_op op_fdiv (pv 2) (pe_op op_add pe_int (pe_op op_fdiv (pe_dget (hu_of hr) (pv 0) pe_str (fun _ _ => rfl)) (pe_callB call_len_seq (by rfl) B.len PySem.boot_len (pa_cons (pe_dget (hu_of hr) (pv 0) pe_str (fun _ _ => rfl)) pa_nil))))) pa_nil)) (pv 1))))), ?_⟩
    have nrp : r ≠ p := fun z => by rw [z, hp] at hl; cases hl
    have gR : DGet H p (.str "rows") (some (.ref r)) := by
      have := DGet.k (k := .inr "rows") hp
      rw [st_rows] at this
      exact this
    have gA : DGet H p (.str "at") (some (.int a)) := by
      have := DGet.k (k := .inr "at") hp
      rw [st_at] at this
      exact this
    have hl2 : (rs.map V.int).length = 60 := by rw [List.length_map, h60]
    have e2 : 0 ≤ a % 60 := Int.emod_nonneg _ (by decide)
    have e3 : a % 60 < 60 := Int.emod_lt_of_pos _ (by decide)
    obtain ⟨j, ej⟩ : ∃ j : Nat, a % 60 = (j : Int) := ⟨(a % 60).toNat, by omega⟩
    have hj : j < rs.length := by omega
    refine ⟨_, rfl, p, _, rfl, gR, _, rfl, p, _, rfl, gA, .inl ⟨_, rfl, _, rfl, p, _, rfl, gR, r, _, rfl, .inl (SqL.of hl), _, _, rfl, rfl, ?_, r, _, _, V.int rs[j], rfl, rfl, SqL.of hl, at_ofN (j := j) ?_ ?_, ?_⟩⟩
    · rw [hl2]
      show (0 : Int) < ((60 : Nat) : Int)
      decide
    · rw [hl2]
      exact ej
    · rw [List.getElem?_map, List.getElem?_eq_getElem hj]
      rfl
    have hput : DPut H p (.str "at") (.int (a + 1)) (upd H p (.dK (stK r (a + 1) n))) := by
      have := DPut.k (k := .inr "at") (v := .int (a + 1)) hp (by show 3 < sizeLine; rw [sizeLine_eq]; decide)
      rw [put_at] at this
      exact this
    refine ⟨_, rfl, p, _, rfl, gA, _, _, rfl, rfl, _, rfl, p, _, rfl, hput, ?_⟩
    have gR2 : DGet (upd H p (.dK (stK r (a + 1) n))) p (.str "rows") (some (.ref r)) := by
      have := DGet.k (k := .inr "rows") (H := upd H p (.dK (stK r (a + 1) n))) (a := p) upd_same
      rw [st_rows] at this
      exact this
    have gA2 : DGet (upd H p (.dK (stK r (a + 1) n))) p (.str "at") (some (.int (a + 1))) := by
      have := DGet.k (k := .inr "at") (H := upd H p (.dK (stK r (a + 1) n))) (a := p) upd_same
      rw [st_at] at this
      exact this
    have hl3 : upd H p (.dK (stK r (a + 1) n)) r = some (.lst (rs.map V.int)) := by
      rw [upd_ne nrp]
      exact hl
    have d1 : 0 ≤ (a + 1) / 60 := Int.ediv_nonneg (by omega) (by decide)
    have d2 : (a + 1) / 60 ≤ 1000000000 := by
      have hB : BIG = 60000000000 := rfl
      omega
    have hd : ∀ z : Int, 0 < 1 + (a + 1) / ((rs.map V.int).length : Nat) ∧ 1 + (a + 1) / ((rs.map V.int).length : Nat) < 1073741824 := fun _ => by
      rw [hl2]
      exact ⟨by omega, by omega⟩
    refine ⟨_, rfl, _, rfl, p, _, rfl, gA2, _, rfl, p, _, rfl, gR2, r, _, rfl, .inl (SqL.of hl3), _, _, rfl, rfl, ⟨by rw [hl2]; decide, by rw [hl2]; decide⟩, _, _, rfl, rfl, _, _, rfl, rfl, hd 0, .inl ⟨_, rfl, _, rfl, _, _, rfl, rfl, hc, ?_⟩⟩
    exact q _ _ keep_upd ⟨r, rs, upd_same, hl3, h60, by omega⟩ (Int.emod_nonneg _ (by omega)) (Int.emod_lt_of_pos _ hc)
end
end My
namespace My
open PySem L2 SX
open C8 (pss_cut tCut cutS_slice pe_gc)
/-- how many draws at most: expression, statement, block -/
def cc : Nat → Int × Int × Int
  | 0 => (3, 5, 0)
  | n + 1 =>
    let t := cc n
    let e := 10 + 4 * t.1 + t.2.2
    let s := 5 + e + t.1 + 2 * t.2.1 + 2 * t.2.2
    (e, s, 1 + 3 * (30 + 8 * t.2.2 + t.1 + s))
def cE (n : Nat) : Int := (cc n).1
def cS (n : Nat) : Int := (cc n).2.1
def cB (n : Nat) : Int := (cc n).2.2
theorem cE_s (n : Nat) : cE (n + 1) = 10 + 4 * cE n + cB n := rfl
theorem cS_s (n : Nat) : cS (n + 1) = 5 + cE (n + 1) + cE n + 2 * cS n + 2 * cB n := rfl
theorem cB_s (n : Nat) : cB (n + 1) = 1 + 3 * (30 + 8 * cB n + cE n + cS (n + 1)) := rfl
theorem cc_nn : ∀ n, 3 ≤ cE n ∧ 5 ≤ cS n ∧ 0 ≤ cB n
  | 0 => ⟨by decide, by decide, by decide⟩
  | n + 1 => by
    obtain ⟨h1, h2, h3⟩ := cc_nn n
    have e1 := cE_s n
    have e2 := cS_s n
    have e3 := cB_s n
    exact ⟨by omega, by omega, by omega⟩
/-- nothing is promised: what is never called -/
def spNo : Sp := fun _ _ _ _ => False
theorem ok_no {P : Program} {w : World} {K : PySem.W.Frag} {mg : Str → Option Value} {base : Heap} {k : Nat} {f : Addr} {fd : FuncData} {ps : List Str} : FnOk P w K mg base CX0 k f fd ps spNo :=
  ⟨fun _ _ _ _ h => h.elim, fun _ _ _ _ _ _ _ _ _ _ _ _ _ h => h.elim⟩
theorem SD.ne {p y : Addr} {a n : Int} {H : Hp} (st : SD p a n H) (h : H y = none) : y ≠ p := fun z => by
  obtain ⟨r, rs, h1, _⟩ := st
  rw [z, h1] at h
  cases h
theorem pick_at {xs : List (List Nat)} {i : Int} (h0 : 0 ≤ i) (h1 : i < (xs.length : Nat)) : ∃ x, x ∈ xs ∧ atI (xs.map fun x => V.str (S x)) i = some (.str (S x)) := by
  obtain ⟨j, rfl⟩ : ∃ j : Nat, i = (j : Int) := ⟨i.toNat, by omega⟩
  have hj : j < xs.length := by omega
  refine ⟨xs[j], List.getElem_mem hj, atI_nat ?_⟩
  rw [List.getElem?_map, List.getElem?_eq_getElem hj]
  rfl
def lit (l : List String) : List V := l.map fun x => V.str (Str.ofString x)
theorem nm6 : lit ["a", "b", "x1", "total", "f", "this"] = names6.map fun x => V.str (S x) := by decide +kernel
theorem tx7 : lit ["", "a b", "\"", "\\n", "\n", "// x", "{}"] = texts7.map fun x => V.str (S x) := by decide +kernel
theorem sg12 : lit ["+", "-", "*", "/", "mod", "==", "!=", "<", "<=", ">", ">=", "is"] = signs12.map fun x => V.str (S x) := by decide +kernel
theorem un2 : lit ["-", "not"] = [cs "-", cs "not"].map fun x => V.str (S x) := by decide +kernel
theorem ab3 : lit ["a", "b", "x1"] = [cs "a", cs "b", cs "x1"].map fun x => V.str (S x) := by decide +kernel
theorem ab3v : lit ["a", "b", "v2"] = [cs "a", cs "b", cs "v2"].map fun x => V.str (S x) := by decide +kernel
theorem xs2 : lit ["x", "size"] = [cs "x", cs "size"].map fun x => V.str (S x) := by decide +kernel
theorem px2 : lit ["push", "x"] = [cs "push", cs "x"].map fun x => V.str (S x) := by decide +kernel
/-- the law's drawing defs, where they stand -/
structure TD (K : PySem.W.Frag) (mg : Str → Option Value) (aDraw aLeaf aTerms aExpression aCompound aAssignment aFunction aBlock aItem aMember aStatement aConditional : Addr) (dDraw dLeaf dTerms dExpression dCompound dAssignment dFunction dBlock dItem dMember dStatement dConditional : FuncData) : Prop where
  f_law_draw : Fun K "_law_draw" "_law_draw" sDraw aDraw dDraw
  b_law_draw : Binds K dDraw ["state", "count"] []
  g_law_draw : mg "_law_draw" = some (.ref aDraw)
  f_law_leaf : Fun K "_law_leaf" "_law_leaf" sLeaf aLeaf dLeaf
  b_law_leaf : Binds K dLeaf ["state"] []
  g_law_leaf : mg "_law_leaf" = some (.ref aLeaf)
  f_law_terms : Fun K "_law_terms" "_law_terms" sTerms aTerms dTerms
  b_law_terms : Binds K dTerms ["state", "deep", "most"] []
  g_law_terms : mg "_law_terms" = some (.ref aTerms)
  f_law_expression : Fun K "_law_expression" "_law_expression" sExpression aExpression dExpression
  b_law_expression : Binds K dExpression ["state", "deep"] []
  g_law_expression : mg "_law_expression" = some (.ref aExpression)
  f_law_compound : Fun K "_law_compound" "_law_compound" sCompound aCompound dCompound
  b_law_compound : Binds K dCompound ["state", "deep", "choice"] []
  g_law_compound : mg "_law_compound" = some (.ref aCompound)
  f_law_assignment : Fun K "_law_assignment" "_law_assignment" sAssignment aAssignment dAssignment
  b_law_assignment : Binds K dAssignment ["state", "deep"] []
  g_law_assignment : mg "_law_assignment" = some (.ref aAssignment)
  f_law_function : Fun K "_law_function" "_law_function" sFunction aFunction dFunction
  b_law_function : Binds K dFunction ["state", "deep", "params"] []
  g_law_function : mg "_law_function" = some (.ref aFunction)
  f_law_block : Fun K "_law_block" "_law_block" sBlock aBlock dBlock
  b_law_block : Binds K dBlock ["state", "deep"] []
  g_law_block : mg "_law_block" = some (.ref aBlock)
  f_law_item : Fun K "_law_item" "_law_item" sItem aItem dItem
  b_law_item : Binds K dItem ["state", "deep", "items"] []
  g_law_item : mg "_law_item" = some (.ref aItem)
  f_law_member : Fun K "_law_member" "_law_member" sMember aMember dMember
  b_law_member : Binds K dMember ["state", "deep"] []
  g_law_member : mg "_law_member" = some (.ref aMember)
  f_law_statement : Fun K "_law_statement" "_law_statement" sStatement aStatement dStatement
  b_law_statement : Binds K dStatement ["state", "deep"] []
  g_law_statement : mg "_law_statement" = some (.ref aStatement)
  f_law_conditional : Fun K "_law_conditional" "_law_conditional" sConditional aConditional dConditional
  b_law_conditional : Binds K dConditional ["state", "deep"] []
  g_law_conditional : mg "_law_conditional" = some (.ref aConditional)
section
variable {P : Program} {w : World} {K : PySem.W.Frag} {mg : Str → Option Value} {base : Heap} {aDraw aLeaf aTerms aExpression aCompound aAssignment aFunction aBlock aItem aMember aStatement aConditional : Addr} {dDraw dLeaf dTerms dExpression dCompound dAssignment dFunction dBlock dItem dMember dStatement dConditional : FuncData}
/-! ### _law_leaf -/
theorem scLeaf : FnScope ["state", "choice"] ["state"] (defScope sLeaf) := ⟨rfl, rfl, rfl, by decide +kernel, rfl, by decide +kernel, by decide +kernel⟩
theorem ok_leaf (L : TD K mg aDraw aLeaf aTerms aExpression aCompound aAssignment aFunction aBlock aItem aMember aStatement aConditional dDraw dLeaf dTerms dExpression dCompound dAssignment dFunction dBlock dItem dMember dStatement dConditional) (B : Bl mg) : FnOk P w K mg base CX0 2 aLeaf dLeaf ["state"] (spR K [] leafR 2) := by
  have G_law_draw : FnOk P w K mg base CX0 1 aDraw dDraw ["state", "count"] spDraw := ok_draw L.f_law_draw B
  refine L.f_law_leaf.ok scLeaf (fun vs H Q E h => ?_) (fun cdv A outer s H vs Q E hr h => ?_)
  · obtain ⟨p, a, n, rfl, _⟩ := h
    rfl
  · obtain ⟨p, a, n, rfl, st, hb, q⟩ := h
    refine ⟨_, pss_cons (ps_set (i := 1) scLeaf.nd rfl (.inl rfl) (pe_call G_law_draw (hr.mono (by omega)) (by rfl) L.g_law_draw L.f_law_draw.kp L.b_law_draw .nil pass0 (pa_cons (pv 0) (pa_cons pe_int pa_nil))))
      (pss_cons (ps_if (pt_cmpR op_lt (pv 1) pe_int (nomark _))
        (pss_one (ps_ret (pe_tup (pa_cons pe_str (pa_cons pe_int (pa_cons (pe_ix ix_list (pe_lst (pa_cons pe_str (pa_cons pe_str (pa_cons pe_str (pa_cons pe_str (pa_cons pe_str (pa_cons pe_str pa_nil))))))) (pe_call G_law_draw (hr.mono (by omega)) (by rfl) L.g_law_draw L.f_law_draw.kp L.b_law_draw .nil pass0 (pa_cons (pv 0) (pa_cons pe_int pa_nil))) (fun _ _ => rfl)) pa_nil))))))
        pss_nil)
      (pss_cons (ps_if (pt_cmpR op_lt (pv 1) pe_int (nomark _))
        (pss_one (ps_ret (pe_tup (pa_cons pe_str (pa_cons (pe_call G_law_draw (hr.mono (by omega)) (by rfl) L.g_law_draw L.f_law_draw.kp L.b_law_draw .nil pass0 (pa_cons (pv 0) (pa_cons (pe_op op_pow pe_int pe_int) pa_nil))) pa_nil)))))
        pss_nil)
      (pss_cons (ps_if (pt_cmpR op_eq (pv 1) pe_int (nomark _))
        (pss_one (ps_ret (pe_tup (pa_cons pe_str (pa_cons (pe_ix ix_list (pe_lst (pa_cons pe_str (pa_cons pe_str (pa_cons pe_str (pa_cons pe_str (pa_cons pe_str (pa_cons pe_str (pa_cons pe_str pa_nil)))))))) (pe_call G_law_draw (hr.mono (by omega)) (by rfl) L.g_law_draw L.f_law_draw.kp L.b_law_draw .nil pass0 (pa_cons (pv 0) (pa_cons pe_int pa_nil))) (fun _ _ => rfl)) pa_nil)))))
        pss_nil)
      (pss_cons (ps_if (pt_cmpR op_eq (pv 1) pe_int (nomark _))
        (pss_one (ps_ret (pe_tup (pa_cons pe_str pa_nil))))
        pss_nil)
      (pss_one (ps_ret (pe_tup (pa_cons pe_str (pa_cons (pe_cmpR op_eq (pe_call G_law_draw (hr.mono (by omega)) (by rfl) L.g_law_draw L.f_law_draw.kp L.b_law_draw .nil pass0 (pa_cons (pv 0) (pa_cons pe_int pa_nil))) pe_int (nomark _)) pa_nil))))))))), ?_⟩
    have fin : ∀ {Hx : Hp} {y : Addr} {xs : List V} {ds : List PyData} {at' : Int}, Keep p H Hx → SD p at' n Hx → a ≤ at' → at' ≤ a + 2 → Hx y = none → TpAll K Hx xs ds → Dr leafR n (.tuple ds) n → Q (.ref y) (upd Hx y (.tup xs)) :=
      fun kx sx h1 h2 ny hd hr => q _ _ _ _ n (kx.lay ny) (sx.lay ny) h1 h2 (tp_new ny hd) hr
    refine ⟨_, rfl, p, a, n, 9, rfl, st, by decide, by omega, fun H1 c k1 st1 c0 c9 => ?_⟩
    refine ⟨_, rfl, _, _, rfl, rfl, _, rfl, ite2 (fun e => ?_) (fun e => ?_)⟩
    · -- a name
      refine ⟨(by show 6 ≤ sizeLine; decide), fun y ny => ?_⟩
      refine ⟨_, rfl, p, a + 1, n, 6, rfl, st1.lay ny, by decide, by omega, fun H2 i k2 st2 i0 i6 => ?_⟩
      obtain ⟨x, hx, ex⟩ := pick_at (xs := names6) i0 i6
      rw [← nm6] at ex
      refine ⟨y, _, _, _, rfl, rfl, SqL.of (k2 _ _ upd_same (st1.ne ny)), ex, (by show 3 ≤ sizeLine; decide), fun z nz => ?_⟩
      exact fin ((k1.lay ny).trans k2) st2 (by omega) (by omega) nz (.cons (.str _) (.cons (.int _) (.cons (.str _) .nil))) fun at_ => ⟨_, _, rfl, .name hx⟩
    refine ⟨_, rfl, _, _, rfl, rfl, _, rfl, ite2 (fun e => ?_) (fun e => ?_)⟩
    · -- a number
      have e12 : (10 : Int) ^ (12 : Int).toNat = 1000000000000 := by decide
      refine ⟨_, rfl, _, _, rfl, rfl, ⟨by decide, by decide, by decide⟩, p, a + 1, n, _, rfl, st1, by rw [e12]; decide, by omega, fun H2 i k2 st2 i0 i6 => ?_⟩
      rw [e12] at i6
      refine ⟨(by show 2 ≤ sizeLine; decide), fun y ny => ?_⟩
      exact fin (k1.trans k2) st2 (by omega) (by omega) ny (.cons (.str _) (.cons (.int _) .nil)) fun at_ => ⟨_, _, rfl, .int i0 i6⟩
    refine ⟨_, rfl, rfl, _, rfl, ite2 (fun e => ?_) (fun e => ?_)⟩
    · -- a text
      refine ⟨(by show 7 ≤ sizeLine; decide), fun y ny => ?_⟩
      refine ⟨_, rfl, p, a + 1, n, 7, rfl, st1.lay ny, by decide, by omega, fun H2 i k2 st2 i0 i6 => ?_⟩
      obtain ⟨x, hx, ex⟩ := pick_at (xs := texts7) i0 i6
      rw [← tx7] at ex
      refine ⟨y, _, _, _, rfl, rfl, SqL.of (k2 _ _ upd_same (st1.ne ny)), ex, (by show 2 ≤ sizeLine; decide), fun z nz => ?_⟩
      exact fin ((k1.lay ny).trans k2) st2 (by omega) (by omega) nz (.cons (.str _) (.cons (.str _) .nil)) fun at_ => ⟨_, _, rfl, .text hx⟩
    refine ⟨_, rfl, rfl, _, rfl, ite2 (fun e => ?_) (fun e => ?_)⟩
    · refine ⟨(by show 1 ≤ sizeLine; decide), fun y ny => ?_⟩
      exact fin k1 st1 (by omega) (by omega) ny (.cons (.str _) .nil) fun at_ => ⟨_, _, rfl, .null⟩
    · refine ⟨_, rfl, p, a + 1, n, 2, rfl, st1, by decide, by omega, fun H2 i k2 st2 i0 i2 => ?_⟩
      refine ⟨rfl, (by show 2 ≤ sizeLine; decide), fun y ny => ?_⟩
      exact fin (k1.trans k2) st2 (by omega) (by omega) ny (.cons (.str _) (.cons (.bl _) .nil)) fun at_ => ⟨_, _, rfl, .bool⟩
/-! ### _law_terms -/
theorem scTerms : FnScope ["state", "deep", "most", "k"] ["state", "deep", "most"] (defScope sTerms) := ⟨rfl, rfl, rfl, by decide +kernel, rfl, by decide +kernel, by decide +kernel⟩
def spTerms (K : PySem.W.Frag) (E : Rl) (c : Int) (n : Int) : Sp := fun vs H Q _ => ∃ (p : Addr) (at_ num most : Int), vs = [.ref p, .int n, .int most] ∧ SD p at_ num H ∧ 0 ≤ most ∧ most ≤ 3 ∧ at_ + 1 + 3 * c ≤ BIG ∧
  ∀ H' v ds at' num', Keep p H H' → SD p at' num' H' → at_ ≤ at' → at' ≤ at_ + 1 + most * c → Tp K H' v (.tuple ds) → (ds.length : Int) ≤ most → (∀ at_, ∃ s ds', LW E (cs " ,") num ds num' at_ s ds') → Q v H'
theorem ok_terms (L : TD K mg aDraw aLeaf aTerms aExpression aCompound aAssignment aFunction aBlock aItem aMember aStatement aConditional dDraw dLeaf dTerms dExpression dCompound dAssignment dFunction dBlock dItem dMember dStatement dConditional) (B : Bl mg) {k : Nat} {E : Rl} {c n : Int} (hc : 0 ≤ c) (G_law_expression : FnOk P w K mg base CX0 k aExpression dExpression ["state", "deep"] (spR K [.int n] E c)) : FnOk P w K mg base CX0 (k + 2) aTerms dTerms ["state", "deep", "most"] (spTerms K E c n) := by
  have G_law_draw : FnOk P w K mg base CX0 1 aDraw dDraw ["state", "count"] spDraw := ok_draw L.f_law_draw B
  refine L.f_law_terms.ok scTerms (fun vs H Q E h => ?_) (fun cdv A outer s H vs Q E' hr h => ?_)
  · obtain ⟨p, a, n, most, rfl, _⟩ := h
    rfl
  · obtain ⟨p, a, m, most, rfl, st, h0, h3, hb, q⟩ := h
    refine ⟨_, pss_one (ps_ret (pe_callTy call_tuple_of (by rfl) B.tuple (by decide +kernel) (pa_cons (pe_lc (own := [("k", 3)]) (g := gName 3) (tt := tYes) (by rfl) scTerms.nd (pi_range1 (by rfl) B.range (pa_cons (pe_call G_law_draw (hr.mono (by omega)) (by rfl) L.g_law_draw L.f_law_draw.kp L.b_law_draw .nil pass0 (pa_cons (pv 0) (pa_cons (pe_op op_add (pv 2) pe_int) pa_nil))) pa_nil)) (blkOk_by (own := [("k", 3)]) (N := ["state", "deep", "most", "k"]) (sc := defScope sTerms) (by decide +kernel)) (fun _ _ _ _ _ => pg_name (i := 3) scTerms.nd rfl (.inl rfl)) (fun _ _ _ _ _ => pts_nil) (fun _ _ _ _ _ => (pe_call G_law_expression (hr.mono (by omega)) (by rfl) L.g_law_expression L.f_law_expression.kp L.b_law_expression .nil pass0 (pa_cons (pv 0) (pa_cons (pv 1) pa_nil))))) pa_nil))), ?_⟩
    refine ⟨_, rfl, _, rfl, _, _, rfl, rfl, p, a, m, most + 1, rfl, st, by omega, by omega, fun H1 i k1 st1 i0 i4 => ?_⟩
    refine ⟨i, rfl, by omega, by omega, fun Dl nD => lc_range (fun j H' => ∃ (xs : List V) (ds : List PyData) (at' num' : Int), H' Dl = some (.lst xs) ∧ xs.length = j ∧ TpAll K H' xs ds ∧ Keep p H1 H' ∧ SD p at' num' H' ∧ a ≤ at' ∧ at' ≤ a + 1 + j * c ∧ (∀ at_, ∃ s ds', LW E (cs " ,") m ds num' at_ s ds')) ?_ ?_ ?_⟩
    · exact ⟨[], [], a + 1, m, upd_same, rfl, .nil, Same.keep (same_upd nD), st1.lay nD, by omega, by omega, fun at_ => ⟨_, _, .nil⟩⟩
    · rintro j H' hj ⟨xs, ds, at', num', hD, hl, hx, k2, st2, a1, a2, hw⟩
      have hj3 : j < 3 := by omega
      have hc3 : a + 1 + (j : Int) * c + c ≤ BIG ∧ ((j + 1 : Nat) : Int) * c = (j : Int) * c + c := by
        have h : j = 0 ∨ j = 1 ∨ j = 2 := by omega
        rcases h with rfl | rfl | rfl <;> exact ⟨by omega, by omega⟩
      refine ⟨rfl, _, rfl, _, rfl, p, at', num', rfl, st2, by omega, fun H4 v d at2 num2 k4 st4 b1 b2 hv hd => ?_⟩
      have nDp : Dl ≠ p := st1.ne nD
      have hD4 : H4 Dl = some (.lst xs) := k4 _ _ hD nDp
      refine ⟨xs, hD4, (by rw [sizeLine_eq]; omega), xs ++ [v], ds ++ [d], at2, num2, upd_same, by rw [List.length_append, hl]; rfl, ?_, fun b o e n => ?_, ?_, by omega, by omega, fun at_ => ?_⟩
      · exact tpa_lst hD4 (tpa_snoc (st2.tpa k4 hx) hv)
      · rw [upd_ne (fun z => by rw [z, nD] at e; cases e)]
        exact k4 _ _ (k2 _ _ e n) n
      · exact st4.short hD4 (by omega)
      · obtain ⟨s1, ds', w1⟩ := hw at_
        obtain ⟨t, d', w2⟩ := hd (at_ + len (s1 ++ (if ds = [] then [] else cs " ,")))
        exact ⟨_, _, .snoc w1 rfl w2⟩
    rintro H' ⟨xs, ds, at', num', hD, hl, hx, k2, st2, a1, a2, hw⟩
    refine ⟨Dl, xs, rfl, .inl ⟨SqL.of hD, fun y ny => ?_⟩⟩
    have hl' : (ds.length : Int) = i := by
      rw [← tpa_len hx, hl]
      omega
    refine q _ (.ref y) ds at' num' ((k1.trans k2).lay ny) (st2.lay ny) a1 ?_ (tp_new ny hx) (by omega) hw
    have h : i.toNat = 0 ∨ i.toNat = 1 ∨ i.toNat = 2 ∨ i.toNat = 3 := by omega
    have hm : most = 0 ∨ most = 1 ∨ most = 2 ∨ most = 3 := by omega
    rcases hm with rfl | rfl | rfl | rfl <;> rcases h with h | h | h | h <;> rw [h] at a2 <;> omega
end
end My
namespace My
open PySem L2 SX
open C8 (pss_cut tCut cutS_slice pe_gc)
theorem dr_inn {E : Rl} {a b : Int} {d : D} (h : Dr E a d b) : Dr (InnW E) a d b := fun at_ => by
  cases hl : isLf d with
  | true =>
    obtain ⟨s, d', w⟩ := h at_
    exact ⟨s, d', .inl ⟨hl, w⟩⟩
  | false =>
    obtain ⟨s, d', w⟩ := h (at_ + 1)
    exact ⟨_, d', .inr ⟨hl, s, rfl, w⟩⟩
theorem leaf_dr : ∀ (n : Nat) {d : PyData} {a b : Int}, Dr leafR a d b → Dr (LV n).E a d b
  | 0, _, _, _, h => h
  | n + 1, _, _, _, h => fun at_ => by
    obtain ⟨s, d', e, w⟩ := h at_
    subst e
    exact ⟨s, d', .leaf w⟩
def spE (K : PySem.W.Frag) : Nat → Sp
  | 0 => spNo
  | m + 1 => spR K [.int (m : Nat)] (LV m).E (cE m)
/-- the kinds that come last, by their number -/
def spCm (K : PySem.W.Frag) : Nat → Sp
  | 0 => spNo
  | m + 1 => fun vs H Q _ => ∃ (p : Addr) (at_ num choice : Int), vs = [.ref p, .int ((m + 1 : Nat) : Int), .int choice] ∧ 11 ≤ choice ∧ choice ≤ 18 ∧ SD p at_ num H ∧ at_ + (cE (m + 1) - 1) ≤ BIG ∧
    ∀ H' v d at' num', Keep p H H' → SD p at' num' H' → at_ ≤ at' → at' ≤ at_ + (cE (m + 1) - 1) → Tp K H' v d → Dr (LV (m + 1)).E num d num' → Q v H'
def spAs (K : PySem.W.Frag) : Nat → Sp
  | 0 => spNo
  | m + 1 => spR K [.int ((m + 1 : Nat) : Int)] (LV (m + 1)).E (2 + 3 * cE m)
def spFn (K : PySem.W.Frag) : Nat → Sp
  | 0 => spNo
  | m + 1 => fun vs H Q _ => ∃ (p q : Addr) (at_ num : Int) (pre : List (List Nat)), vs = [.ref p, .int (m : Nat), .ref q] ∧ SqT K H q (pre.map fun x => .str (S x)) ∧ pre.length ≤ 1 ∧ SD p at_ num H ∧ at_ + (1 + cB m) ≤ BIG ∧
    ∀ H' v d at' num', Keep p H H' → SD p at' num' H' → at_ ≤ at' → at' ≤ at_ + (1 + cB m) → Tp K H' v d → (∀ off at_, ∃ s d', FunW (LV m).B pre [] off num d num' at_ s d') → Q v H'
section
variable {P : Program} {w : World} {K : PySem.W.Frag} {mg : Str → Option Value} {base : Heap} {aDraw aLeaf aTerms aExpression aCompound aAssignment aFunction aBlock aItem aMember aStatement aConditional : Addr} {dDraw dLeaf dTerms dExpression dCompound dAssignment dFunction dBlock dItem dMember dStatement dConditional : FuncData}
/-! ### _law_expression -/
theorem scExpression : FnScope ["state", "deep", "choice", "sign", "left"] ["state", "deep"] (defScope sExpression) := ⟨rfl, rfl, rfl, by decide +kernel, rfl, by decide +kernel, by decide +kernel⟩
theorem ok_expression (L : TD K mg aDraw aLeaf aTerms aExpression aCompound aAssignment aFunction aBlock aItem aMember aStatement aConditional dDraw dLeaf dTerms dExpression dCompound dAssignment dFunction dBlock dItem dMember dStatement dConditional) (B : Bl mg) (n : Nat) {k : Nat} (hk : 2 ≤ k) (G_law_expression : FnOk P w K mg base CX0 k aExpression dExpression ["state", "deep"] (spE K n)) (G_law_compound : FnOk P w K mg base CX0 k aCompound dCompound ["state", "deep", "choice"] (spCm K n)) :
    FnOk P w K mg base CX0 (k + 1) aExpression dExpression ["state", "deep"] (spR K [.int (n : Nat)] (LV n).E (cE n)) := by
  have G_law_draw : FnOk P w K mg base CX0 1 aDraw dDraw ["state", "count"] spDraw := ok_draw L.f_law_draw B
  have G_law_leaf : FnOk P w K mg base CX0 2 aLeaf dLeaf ["state"] (spR K [] leafR 2) := ok_leaf L B
  refine L.f_law_expression.ok scExpression (fun vs H Q E h => ?_) (fun cdv A outer s H vs Q E hr h => ?_)
  · obtain ⟨p, a, n, rfl, _⟩ := h
    rfl
  · obtain ⟨p, a, m, rfl, st, hb, q⟩ := h
    obtain ⟨n1, n2, n3⟩ := cc_nn n
    refine ⟨_, pss_cons (ps_set (i := 2) scExpression.nd rfl (.inl rfl) (pe_call G_law_draw (hr.mono (by omega)) (by rfl) L.g_law_draw L.f_law_draw.kp L.b_law_draw .nil pass0 (pa_cons (pv 0) (pa_cons pe_int pa_nil))))
      (pss_cons (ps_if (PW.pt (pw_or (pt_cmpR op_le (pv 1) pe_int (nomark _)) (pw_or1 (pt_cmpR op_lt (pv 2) pe_int (nomark _)))))
        (pss_one (ps_ret (pe_call G_law_leaf (hr.mono (by omega)) (by rfl) L.g_law_leaf L.f_law_leaf.kp L.b_law_leaf .nil pass0 (pa_cons (pv 0) pa_nil))))
        pss_nil)
      (pss_cons (ps_if (pt_cmpR op_lt (pv 2) pe_int (nomark _))
        (pss_one (ps_ret (pe_tup (pa_cons pe_str (pa_cons pe_int (pa_cons (pe_ix ix_list (pe_lst (pa_cons pe_str (pa_cons pe_str pa_nil))) (pe_op op_sub (pv 2) pe_int) (fun _ _ => rfl)) (pa_cons (pe_call G_law_expression (hr.mono (by omega)) (by rfl) L.g_law_expression L.f_law_expression.kp L.b_law_expression .nil pass0 (pa_cons (pv 0) (pa_cons (pe_op op_sub (pv 1) pe_int) pa_nil))) pa_nil)))))))
        pss_nil)
      (pss_cons (ps_if (pt_cmpR op_lt (pv 2) pe_int (nomark _))
        (pss_cons (ps_set (i := 3) scExpression.nd rfl (.inl rfl) (pe_ix ix_list (pe_lst (pa_cons pe_str (pa_cons pe_str (pa_cons pe_str (pa_cons pe_str (pa_cons pe_str (pa_cons pe_str (pa_cons pe_str (pa_cons pe_str (pa_cons pe_str (pa_cons pe_str (pa_cons pe_str (pa_cons pe_str pa_nil))))))))))))) (pe_call G_law_draw (hr.mono (by omega)) (by rfl) L.g_law_draw L.f_law_draw.kp L.b_law_draw .nil pass0 (pa_cons (pv 0) (pa_cons pe_int pa_nil))) (fun _ _ => rfl)))
        (pss_cons (ps_set (i := 4) scExpression.nd rfl (.inl rfl) (pe_call G_law_expression (hr.mono (by omega)) (by rfl) L.g_law_expression L.f_law_expression.kp L.b_law_expression .nil pass0 (pa_cons (pv 0) (pa_cons (pe_op op_sub (pv 1) pe_int) pa_nil))))
        (pss_one (ps_ret (pe_tup (pa_cons pe_str (pa_cons pe_int (pa_cons (pv 3) (pa_cons (pv 4) (pa_cons (pe_call G_law_expression (hr.mono (by omega)) (by rfl) L.g_law_expression L.f_law_expression.kp L.b_law_expression .nil pass0 (pa_cons (pv 0) (pa_cons (pe_op op_sub (pv 1) pe_int) pa_nil))) pa_nil))))))))))
        pss_nil)
      (pss_cons (ps_if (pt_cmpR op_lt (pv 2) pe_int (nomark _))
        (pss_cons (ps_set (i := 4) scExpression.nd rfl (.inl rfl) (pe_call G_law_expression (hr.mono (by omega)) (by rfl) L.g_law_expression L.f_law_expression.kp L.b_law_expression .nil pass0 (pa_cons (pv 0) (pa_cons (pe_op op_sub (pv 1) pe_int) pa_nil))))
        (pss_one (ps_ret (pe_tup (pa_cons (pe_ix ix_list (pe_lst (pa_cons pe_str (pa_cons pe_str pa_nil))) (pe_op op_sub (pv 2) pe_int) (fun _ _ => rfl)) (pa_cons (pv 4) (pa_cons (pe_call G_law_expression (hr.mono (by omega)) (by rfl) L.g_law_expression L.f_law_expression.kp L.b_law_expression .nil pass0 (pa_cons (pv 0) (pa_cons (pe_op op_sub (pv 1) pe_int) pa_nil))) pa_nil)))))))
        pss_nil)
      (pss_one (ps_ret (pe_call G_law_compound (hr.mono (by omega)) (by rfl) L.g_law_compound L.f_law_compound.kp L.b_law_compound .nil pass0 (pa_cons (pv 0) (pa_cons (pv 1) (pa_cons (pv 2) pa_nil)))))))))), ?_⟩
    refine ⟨_, rfl, p, a, m, 19, rfl, st, by decide, by omega, fun H1 c k1 st1 c0 c19 => ?_⟩
    have leafE : ∀ {d : PyData} {b : Int}, Dr leafR m d b → Dr (LV n).E m d b := fun h => leaf_dr n h
    have lf : ∀ {Q' : VK}, Q' = Q → spR K [] leafR 2 [.ref p] H1 Q' E0 := fun e => by
      subst e
      exact ⟨p, a + 1, m, rfl, st1, by omega, fun H2 v d at' num' k2 st2 a1 a2 hv hd => q _ _ _ _ _ (k1.trans k2) st2 (by omega) (by omega) hv (leafE hd)⟩
    refine ⟨_, rfl, _, _, rfl, rfl, _, rfl, ite2 (fun e => iteT ⟨_, rfl, lf rfl⟩) (fun e => ⟨_, rfl, _, _, rfl, rfl, _, rfl, ite2 (fun e => ⟨_, rfl, lf rfl⟩) (fun e4 => ?_)⟩)⟩
    obtain ⟨j, rfl⟩ : ∃ j, n = j + 1 := by
      cases n with
      | zero => exact absurd (decide_eq_true (by decide : ((0 : Nat) : Int) ≤ 0)) e
      | succ j => exact ⟨j, rfl⟩
    have ed : ((j + 1 : Nat) : Int) - 1 = (j : Nat) := by omega
    have dd : [V.ref p, V.int (((j + 1 : Nat) : Int) - 1)] = [V.ref p, V.int (j : Nat)] := by rw [ed]
    have c4 : 4 ≤ c := by
      rcases Int.lt_or_le c 4 with z | z
      · exact absurd (decide_eq_true z) e4
      · exact z
    obtain ⟨j1, j2, j3⟩ := cc_nn j
    have eE := cE_s j
    refine ⟨_, rfl, _, _, rfl, rfl, _, rfl, ite2 (fun e6 => ?_) (fun e6 => ?_)⟩
    · -- a sign in front
      have c6 : c < 6 := of_decide_eq_true e6
      refine ⟨(by show 2 ≤ sizeLine; decide), fun y ny => ?_⟩
      obtain ⟨x, hx, ex⟩ := pick_at (xs := [cs "-", cs "not"]) (i := c - 4) (by omega) (by show c - 4 < 2; omega)
      rw [← un2] at ex
      refine ⟨_, rfl, _, _, rfl, rfl, y, _, _, _, rfl, rfl, SqL.of upd_same, ex, _, rfl, _, rfl, _, _, rfl, rfl, p, a + 1, m, dd, st1.lay ny, by omega, fun H2 v d at2 num2 k2 st2 b1 b2 hv hd => ?_⟩
      refine ⟨(by show 4 ≤ sizeLine; decide), fun z nz => ?_⟩
      exact q _ _ _ _ _ (((k1.lay ny).trans k2).lay nz) (st2.lay nz) (by omega) (by omega) (tp_new nz (.cons (.str _) (.cons (.int _) (.cons (.str _) (.cons hv .nil))))) fun at_ => by
        obtain ⟨s, d', w⟩ := dr_inn hd (at_ + len x + 1)
        exact ⟨_, _, .unary hx w⟩
    refine ⟨_, rfl, _, _, rfl, rfl, _, rfl, ite2 (fun e9 => ?_) (fun e9 => ?_)⟩
    · -- a sign between
      refine ⟨(by show 12 ≤ sizeLine; decide), fun y ny => ?_⟩
      refine ⟨_, rfl, p, a + 1, m, 12, rfl, st1.lay ny, by decide, by omega, fun H2 i k2 st2 i0 i6 => ?_⟩
      obtain ⟨x, hx, ex⟩ := pick_at (xs := signs12) i0 i6
      rw [← sg12] at ex
      refine ⟨y, _, _, _, rfl, rfl, SqL.of (k2 _ _ upd_same (st1.ne ny)), ex, ?_⟩
      refine ⟨_, rfl, _, rfl, _, _, rfl, rfl, p, a + 1 + 1, m, dd, st2, by omega, fun H3 v1 d1 at3 num3 k3 st3 b1 b2 hv1 hd1 => ?_⟩
      refine ⟨_, rfl, _, rfl, _, rfl, _, rfl, _, _, rfl, rfl, p, at3, num3, dd, st3, by omega, fun H4 v2 d2 at4 num4 k4 st4 b3 b4 hv2 hd2 => ?_⟩
      refine ⟨(by show 5 ≤ sizeLine; decide), fun z nz => ?_⟩
      exact q _ _ _ _ _ (((((k1.lay ny).trans k2).trans k3).trans k4).lay nz) (st4.lay nz) (by omega) (by omega) (tp_new nz (.cons (.str _) (.cons (.int _) (.cons (.str _) (.cons (st3.tp k4 hv1) (.cons hv2 .nil)))))) fun at_ => by
        obtain ⟨s1, d1', w1⟩ := dr_inn hd1 at_
        obtain ⟨s2, d2', w2⟩ := dr_inn hd2 (at_ + len s1 + 1 + len x + 1)
        exact ⟨_, _, .binary hx w1 w2⟩
    refine ⟨_, rfl, _, _, rfl, rfl, _, rfl, ite2 (fun e11 => ?_) (fun e11 => ?_)⟩
    · -- and, or
      have c11 : c < 11 := of_decide_eq_true e11
      have c9 : 9 ≤ c := by
        rcases Int.lt_or_le c 9 with z | z
        · exact absurd (decide_eq_true z) e9
        · exact z
      refine ⟨_, rfl, _, rfl, _, _, rfl, rfl, p, a + 1, m, dd, st1, by omega, fun H3 v1 d1 at3 num3 k3 st3 b1 b2 hv1 hd1 => ?_⟩
      refine ⟨(by show 2 ≤ sizeLine; decide), fun y ny => ?_⟩
      have hc : c = 9 ∨ c = 10 := by omega
      rcases hc with rfl | rfl
      · refine ⟨_, rfl, _, _, rfl, rfl, y, _, _, V.str "both", rfl, rfl, SqL.of upd_same, rfl, _, rfl, _, rfl, _, rfl, _, _, rfl, rfl, p, at3, num3, dd, st3.lay ny, by omega, fun H4 v2 d2 at4 num4 k4 st4 b3 b4 hv2 hd2 => ?_⟩
        refine ⟨(by show 3 ≤ sizeLine; decide), fun z nz => ?_⟩
        exact q _ _ _ _ _ ((((k1.trans k3).lay ny).trans k4).lay nz) (st4.lay nz) (by omega) (by omega) (tp_new nz (.cons (.str _) (.cons ((st3.lay ny).tp k4 (tp_same (same_upd ny) hv1)) (.cons hv2 .nil)))) fun at_ => by
          obtain ⟨s1, d1', w1⟩ := dr_inn hd1 at_
          obtain ⟨s2, d2', w2⟩ := dr_inn hd2 (at_ + len s1 + 3 + 2)
          exact ⟨_, _, .both w1 w2⟩
      · refine ⟨_, rfl, _, _, rfl, rfl, y, _, _, V.str "either", rfl, rfl, SqL.of upd_same, rfl, _, rfl, _, rfl, _, rfl, _, _, rfl, rfl, p, at3, num3, dd, st3.lay ny, by omega, fun H4 v2 d2 at4 num4 k4 st4 b3 b4 hv2 hd2 => ?_⟩
        refine ⟨(by show 3 ≤ sizeLine; decide), fun z nz => ?_⟩
        exact q _ _ _ _ _ ((((k1.trans k3).lay ny).trans k4).lay nz) (st4.lay nz) (by omega) (by omega) (tp_new nz (.cons (.str _) (.cons ((st3.lay ny).tp k4 (tp_same (same_upd ny) hv1)) (.cons hv2 .nil)))) fun at_ => by
          obtain ⟨s1, d1', w1⟩ := dr_inn hd1 at_
          obtain ⟨s2, d2', w2⟩ := dr_inn hd2 (at_ + len s1 + 2 + 2)
          exact ⟨_, _, .either w1 w2⟩
    · have c11 : 11 ≤ c := by
        rcases Int.lt_or_le c 11 with z | z
        · exact absurd (decide_eq_true z) e11
        · exact z
      refine ⟨_, rfl, _, rfl, _, rfl, p, a + 1, m, c, rfl, c11, by omega, st1, by omega, fun H2 v d at2 num2 k2 st2 b1 b2 hv hd => ?_⟩
      exact q _ _ _ _ _ (k1.trans k2) st2 (by omega) (by omega) hv hd
end
end My
namespace My
open PySem L2 SX
open C8 (pss_cut tCut cutS_slice pe_gc)
section
variable {P : Program} {w : World} {K : PySem.W.Frag} {mg : Str → Option Value} {base : Heap} {aDraw aLeaf aTerms aExpression aCompound aAssignment aFunction aBlock aItem aMember aStatement aConditional : Addr} {dDraw dLeaf dTerms dExpression dCompound dAssignment dFunction dBlock dItem dMember dStatement dConditional : FuncData}
/-! ### _law_assignment -/
theorem scAssignment : FnScope ["state", "deep", "choice", "name", "left", "place"] ["state", "deep"] (defScope sAssignment) := ⟨rfl, rfl, rfl, by decide +kernel, rfl, by decide +kernel, by decide +kernel⟩
theorem ok_assignment (L : TD K mg aDraw aLeaf aTerms aExpression aCompound aAssignment aFunction aBlock aItem aMember aStatement aConditional dDraw dLeaf dTerms dExpression dCompound dAssignment dFunction dBlock dItem dMember dStatement dConditional) (B : Bl mg) (j : Nat) {k : Nat} (hk : 1 ≤ k) (G_law_expression : FnOk P w K mg base CX0 k aExpression dExpression ["state", "deep"] (spE K (j + 1))) :
    FnOk P w K mg base CX0 (k + 1) aAssignment dAssignment ["state", "deep"] (spAs K (j + 1)) := by
  have G_law_draw : FnOk P w K mg base CX0 1 aDraw dDraw ["state", "count"] spDraw := ok_draw L.f_law_draw B
  refine L.f_law_assignment.ok scAssignment (fun vs H Q E h => ?_) (fun cdv A outer s H vs Q E hr h => ?_)
  · obtain ⟨p, a, n, rfl, _⟩ := h
    rfl
  · obtain ⟨p, a, m, rfl, st, hb, q⟩ := h
    obtain ⟨j1, j2, j3⟩ := cc_nn j
    have ed : ((j + 1 : Nat) : Int) - 1 = (j : Nat) := by omega
    have dd : [V.ref p, V.int (((j + 1 : Nat) : Int) - 1)] = [V.ref p, V.int (j : Nat)] := by rw [ed]
    refine ⟨_, pss_cons (ps_set (i := 2) scAssignment.nd rfl (.inl rfl) (pe_call G_law_draw (hr.mono (by omega)) (by rfl) L.g_law_draw L.f_law_draw.kp L.b_law_draw .nil pass0 (pa_cons (pv 0) (pa_cons pe_int pa_nil))))
      (pss_cons (ps_if (pt_cmpR op_eq (pv 2) pe_int (nomark _))
        (pss_cons (ps_set (i := 3) scAssignment.nd rfl (.inl rfl) (pe_ix ix_list (pe_lst (pa_cons pe_str (pa_cons pe_str (pa_cons pe_str pa_nil)))) (pe_call G_law_draw (hr.mono (by omega)) (by rfl) L.g_law_draw L.f_law_draw.kp L.b_law_draw .nil pass0 (pa_cons (pv 0) (pa_cons pe_int pa_nil))) (fun _ _ => rfl)))
        (pss_one (ps_ret (pe_tup (pa_cons pe_str (pa_cons pe_int (pa_cons (pv 3) (pa_cons (pe_call G_law_expression (hr.mono (by omega)) (by rfl) L.g_law_expression L.f_law_expression.kp L.b_law_expression .nil pass0 (pa_cons (pv 0) (pa_cons (pe_op op_sub (pv 1) pe_int) pa_nil))) pa_nil))))))))
        pss_nil)
      (pss_cons (ps_set (i := 4) scAssignment.nd rfl (.inl rfl) (pe_call G_law_expression (hr.mono (by omega)) (by rfl) L.g_law_expression L.f_law_expression.kp L.b_law_expression .nil pass0 (pa_cons (pv 0) (pa_cons (pe_op op_sub (pv 1) pe_int) pa_nil))))
      (pss_cons (ps_if (pt_cmpR op_eq (pv 2) pe_int (nomark _))
        (pss_cons (ps_set (i := 5) scAssignment.nd rfl (.inl rfl) (pe_call G_law_expression (hr.mono (by omega)) (by rfl) L.g_law_expression L.f_law_expression.kp L.b_law_expression .nil pass0 (pa_cons (pv 0) (pa_cons (pe_op op_sub (pv 1) pe_int) pa_nil))))
        (pss_one (ps_ret (pe_tup (pa_cons pe_str (pa_cons pe_int (pa_cons (pv 4) (pa_cons (pv 5) (pa_cons (pe_call G_law_expression (hr.mono (by omega)) (by rfl) L.g_law_expression L.f_law_expression.kp L.b_law_expression .nil pass0 (pa_cons (pv 0) (pa_cons (pe_op op_sub (pv 1) pe_int) pa_nil))) pa_nil)))))))))
        pss_nil)
      (pss_one (ps_ret (pe_tup (pa_cons pe_str (pa_cons pe_int (pa_cons (pv 4) (pa_cons pe_str (pa_cons (pe_call G_law_expression (hr.mono (by omega)) (by rfl) L.g_law_expression L.f_law_expression.kp L.b_law_expression .nil pass0 (pa_cons (pv 0) (pa_cons (pe_op op_sub (pv 1) pe_int) pa_nil))) pa_nil))))))))))), ?_⟩
    refine ⟨_, rfl, p, a, m, 3, rfl, st, by decide, by omega, fun H1 c k1 st1 c0 c3 => ?_⟩
    refine ⟨_, rfl, rfl, _, rfl, ite2 (fun e => ?_) (fun e => ?_)⟩
    · refine ⟨(by show 3 ≤ sizeLine; decide), fun y ny => ?_⟩
      refine ⟨_, rfl, p, a + 1, m, 3, rfl, st1.lay ny, by decide, by omega, fun H2 i k2 st2 i0 i6 => ?_⟩
      obtain ⟨x, hx, ex⟩ := pick_at (xs := [cs "a", cs "b", cs "x1"]) i0 i6
      rw [← ab3] at ex
      refine ⟨y, _, _, _, rfl, rfl, SqL.of (k2 _ _ upd_same (st1.ne ny)), ex, ?_⟩
      refine ⟨_, rfl, _, rfl, _, rfl, _, _, rfl, rfl, p, a + 1 + 1, m, dd, st2, by omega, fun H3 v d at3 num3 k3 st3 b1 b2 hv hd => ?_⟩
      refine ⟨(by show 4 ≤ sizeLine; decide), fun z nz => ?_⟩
      exact q _ _ _ _ _ ((((k1.lay ny).trans k2).trans k3).lay nz) (st3.lay nz) (by omega) (by omega) (tp_new nz (.cons (.str _) (.cons (.int _) (.cons (.str _) (.cons hv .nil))))) fun at_ => by
        obtain ⟨s, d', w⟩ := hd (at_ + len x + 1)
        exact ⟨_, _, .assign hx w⟩
    refine ⟨_, rfl, _, rfl, _, _, rfl, rfl, p, a + 1, m, dd, st1, by omega, fun H2 v1 d1 at2 num2 k2 st2 b1 b2 hv1 hd1 => ?_⟩
    refine ⟨_, rfl, rfl, _, rfl, ite2 (fun e => ?_) (fun e => ?_)⟩
    · refine ⟨_, rfl, _, rfl, _, _, rfl, rfl, p, at2, num2, dd, st2, by omega, fun H3 v2 d2 at3 num3 k3 st3 b3 b4 hv2 hd2 => ?_⟩
      refine ⟨_, rfl, _, rfl, _, rfl, _, rfl, _, _, rfl, rfl, p, at3, num3, dd, st3, by omega, fun H4 v3 d3 at4 num4 k4 st4 b5 b6 hv3 hd3 => ?_⟩
      refine ⟨(by show 5 ≤ sizeLine; decide), fun z nz => ?_⟩
      exact q _ _ _ _ _ ((((k1.trans k2).trans k3).trans k4).lay nz) (st4.lay nz) (by omega) (by omega) (tp_new nz (.cons (.str _) (.cons (.int _) (.cons (st3.tp k4 (st2.tp k3 hv1)) (.cons (st3.tp k4 hv2) (.cons hv3 .nil)))))) fun at_ => by
        obtain ⟨s1, d1', w1⟩ := dr_inn hd1 at_
        obtain ⟨s2, d2', w2⟩ := hd2 (at_ + len s1 + 1)
        obtain ⟨s3, d3', w3⟩ := hd3 (at_ + len (s1 ++ [91] ++ s2 ++ [93]) + 1)
        exact ⟨_, _, .setIndex w1 w2 w3⟩
    refine ⟨_, rfl, _, rfl, _, rfl, _, _, rfl, rfl, p, at2, num2, dd, st2, by omega, fun H3 v2 d2 at3 num3 k3 st3 b3 b4 hv2 hd2 => ?_⟩
    refine ⟨(by show 5 ≤ sizeLine; decide), fun z nz => ?_⟩
    exact q _ _ _ _ _ (((k1.trans k2).trans k3).lay nz) (st3.lay nz) (by omega) (by omega) (tp_new nz (.cons (.str _) (.cons (.int _) (.cons (st2.tp k3 hv1) (.cons (.str _) (.cons hv2 .nil)))))) fun at_ => by
      obtain ⟨s1, d1', w1⟩ := dr_inn hd1 at_
      obtain ⟨s2, d2', w2⟩ := hd2 (at_ + len (s1 ++ [46] ++ cs "x") + 1)
      exact ⟨_, _, .setField w1 w2⟩
/-! ### _law_compound -/
theorem scCompound : FnScope ["state", "deep", "choice", "pairs", "k", "key", "left"] ["state", "deep", "choice"] (defScope sCompound) := ⟨rfl, rfl, rfl, by decide +kernel, rfl, by decide +kernel, by decide +kernel⟩
theorem ok_compound (L : TD K mg aDraw aLeaf aTerms aExpression aCompound aAssignment aFunction aBlock aItem aMember aStatement aConditional dDraw dLeaf dTerms dExpression dCompound dAssignment dFunction dBlock dItem dMember dStatement dConditional) (B : Bl mg) (j : Nat) {k : Nat} (hk : 1 ≤ k) (G_law_expression : FnOk P w K mg base CX0 k aExpression dExpression ["state", "deep"] (spE K (j + 1)))
    (G_law_terms : FnOk P w K mg base CX0 k aTerms dTerms ["state", "deep", "most"] (spTerms K (LV j).E (cE j) (j : Nat)))
    (G_law_assignment : FnOk P w K mg base CX0 k aAssignment dAssignment ["state", "deep"] (spAs K (j + 1)))
    (G_law_function : FnOk P w K mg base CX0 k aFunction dFunction ["state", "deep", "params"] (spFn K (j + 1))) :
    FnOk P w K mg base CX0 (k + 1) aCompound dCompound ["state", "deep", "choice"] (spCm K (j + 1)) := by
  have G_law_draw : FnOk P w K mg base CX0 1 aDraw dDraw ["state", "count"] spDraw := ok_draw L.f_law_draw B
  refine L.f_law_compound.ok scCompound (fun vs H Q E h => ?_) (fun cdv A outer s H vs Q E hr h => ?_)
  · obtain ⟨p, a, n, c, rfl, _⟩ := h
    rfl
  · obtain ⟨p, a, m, c, rfl, c11, c18, st, hb, q⟩ := h
    obtain ⟨j1, j2, j3⟩ := cc_nn j
    have eE := cE_s j
    have ed : ((j + 1 : Nat) : Int) - 1 = (j : Nat) := by omega
    have dd : [V.ref p, V.int (((j + 1 : Nat) : Int) - 1)] = [V.ref p, V.int (j : Nat)] := by rw [ed]
    have dm : ∀ z : V, [V.ref p, V.int (((j + 1 : Nat) : Int) - 1), z] = [V.ref p, V.int (j : Nat), z] := fun z => by rw [ed]
    refine ⟨_, pss_cons (ps_if (pt_cmpR op_eq (pv 2) pe_int (nomark _))
        (pss_one (ps_ret (pe_tup (pa_cons pe_str (pa_cons (pe_call G_law_terms (hr.mono (by omega)) (by rfl) L.g_law_terms L.f_law_terms.kp L.b_law_terms .nil pass0 (pa_cons (pv 0) (pa_cons (pe_op op_sub (pv 1) pe_int) (pa_cons pe_int pa_nil)))) pa_nil)))))
        pss_nil)
      (pss_cons (ps_if (pt_cmpR op_eq (pv 2) pe_int (nomark _))
        (pss_cons (ps_set (i := 3) scCompound.nd rfl (.inl rfl) (pe_lst pa_nil))
        (pss_cons (ps_for PassesOwn.never rfl (pi_range1 (by rfl) B.range (pa_cons (pe_call G_law_draw (hr.mono (by omega)) (by rfl) L.g_law_draw L.f_law_draw.kp L.b_law_draw .nil pass0 (pa_cons (pv 0) (pa_cons pe_int pa_nil))) pa_nil)) (pg_name (i := 4) scCompound.nd rfl (.inl rfl))
          (pss_cons (ps_set (i := 5) scCompound.nd rfl (.inl rfl) (pe_call G_law_expression (hr.mono (by omega)) (by rfl) L.g_law_expression L.f_law_expression.kp L.b_law_expression .nil pass0 (pa_cons (pv 0) (pa_cons (pe_op op_sub (pv 1) pe_int) pa_nil))))
          (pss_one (ps_expr (pe_bm PySem.F.plainAttrs_list PySem.F.slot_list_append PySem.F.type_list_append mt_append (pv 3) (pa_cons (pe_tup (pa_cons (pv 5) (pa_cons (pe_call G_law_expression (hr.mono (by omega)) (by rfl) L.g_law_expression L.f_law_expression.kp L.b_law_expression .nil pass0 (pa_cons (pv 0) (pa_cons (pe_op op_sub (pv 1) pe_int) pa_nil))) pa_nil))) pa_nil))))))
        (pss_one (ps_ret (pe_tup (pa_cons pe_str (pa_cons pe_int (pa_cons (pe_callTy call_tuple_of (by rfl) B.tuple (by decide +kernel) (pa_cons (pv 3) pa_nil)) pa_nil))))))))
        pss_nil)
      (pss_cons (ps_if (pt_cmpR op_eq (pv 2) pe_int (nomark _))
        (pss_cons (ps_set (i := 6) scCompound.nd rfl (.inl rfl) (pe_call G_law_expression (hr.mono (by omega)) (by rfl) L.g_law_expression L.f_law_expression.kp L.b_law_expression .nil pass0 (pa_cons (pv 0) (pa_cons (pe_op op_sub (pv 1) pe_int) pa_nil))))
        (pss_one (ps_ret (pe_tup (pa_cons pe_str (pa_cons pe_int (pa_cons (pv 6) (pa_cons (pe_call G_law_expression (hr.mono (by omega)) (by rfl) L.g_law_expression L.f_law_expression.kp L.b_law_expression .nil pass0 (pa_cons (pv 0) (pa_cons (pe_op op_sub (pv 1) pe_int) pa_nil))) pa_nil))))))))
        pss_nil)
      (pss_cons (ps_if (pt_cmpR op_eq (pv 2) pe_int (nomark _))
        (pss_one (ps_ret (pe_tup (pa_cons pe_str (pa_cons pe_int (pa_cons (pe_call G_law_expression (hr.mono (by omega)) (by rfl) L.g_law_expression L.f_law_expression.kp L.b_law_expression .nil pass0 (pa_cons (pv 0) (pa_cons (pe_op op_sub (pv 1) pe_int) pa_nil))) (pa_cons (pe_ix ix_list (pe_lst (pa_cons pe_str (pa_cons pe_str pa_nil))) (pe_call G_law_draw (hr.mono (by omega)) (by rfl) L.g_law_draw L.f_law_draw.kp L.b_law_draw .nil pass0 (pa_cons (pv 0) (pa_cons pe_int pa_nil))) (fun _ _ => rfl)) pa_nil)))))))
        pss_nil)
      (pss_cons (ps_if (pt_cmpR op_eq (pv 2) pe_int (nomark _))
        (pss_cons (ps_set (i := 6) scCompound.nd rfl (.inl rfl) (pe_call G_law_expression (hr.mono (by omega)) (by rfl) L.g_law_expression L.f_law_expression.kp L.b_law_expression .nil pass0 (pa_cons (pv 0) (pa_cons (pe_op op_sub (pv 1) pe_int) pa_nil))))
        (pss_one (ps_ret (pe_tup (pa_cons pe_str (pa_cons pe_int (pa_cons (pv 6) (pa_cons (pe_call G_law_terms (hr.mono (by omega)) (by rfl) L.g_law_terms L.f_law_terms.kp L.b_law_terms .nil pass0 (pa_cons (pv 0) (pa_cons (pe_op op_sub (pv 1) pe_int) (pa_cons pe_int pa_nil)))) pa_nil))))))))
        pss_nil)
      (pss_cons (ps_if (pt_cmpR op_eq (pv 2) pe_int (nomark _))
        (pss_cons (ps_set (i := 6) scCompound.nd rfl (.inl rfl) (pe_call G_law_expression (hr.mono (by omega)) (by rfl) L.g_law_expression L.f_law_expression.kp L.b_law_expression .nil pass0 (pa_cons (pv 0) (pa_cons (pe_op op_sub (pv 1) pe_int) pa_nil))))
        (pss_one (ps_ret (pe_tup (pa_cons pe_str (pa_cons pe_int (pa_cons (pv 6) (pa_cons (pe_ix ix_list (pe_lst (pa_cons pe_str (pa_cons pe_str pa_nil))) (pe_call G_law_draw (hr.mono (by omega)) (by rfl) L.g_law_draw L.f_law_draw.kp L.b_law_draw .nil pass0 (pa_cons (pv 0) (pa_cons pe_int pa_nil))) (fun _ _ => rfl)) (pa_cons (pe_call G_law_terms (hr.mono (by omega)) (by rfl) L.g_law_terms L.f_law_terms.kp L.b_law_terms .nil pass0 (pa_cons (pv 0) (pa_cons (pe_op op_sub (pv 1) pe_int) (pa_cons pe_int pa_nil)))) pa_nil)))))))))
        pss_nil)
      (pss_cons (ps_if (pt_cmpR op_eq (pv 2) pe_int (nomark _))
        (pss_one (ps_ret (pe_call G_law_assignment (hr.mono (by omega)) (by rfl) L.g_law_assignment L.f_law_assignment.kp L.b_law_assignment .nil pass0 (pa_cons (pv 0) (pa_cons (pv 1) pa_nil)))))
        pss_nil)
      (pss_cons (ps_if (pt_cmpR op_eq (pe_call G_law_draw (hr.mono (by omega)) (by rfl) L.g_law_draw L.f_law_draw.kp L.b_law_draw .nil pass0 (pa_cons (pv 0) (pa_cons pe_int pa_nil))) pe_int (nomark _))
        (pss_one (ps_ret (pe_tup (pa_cons pe_str (pa_cons pe_int (pa_cons pe_str (pa_cons (pe_call G_law_terms (hr.mono (by omega)) (by rfl) L.g_law_terms L.f_law_terms.kp L.b_law_terms .nil pass0 (pa_cons (pv 0) (pa_cons (pe_op op_sub (pv 1) pe_int) (pa_cons pe_int pa_nil)))) pa_nil)))))))
        pss_nil)
      (pss_one (ps_ret (pe_call G_law_function (hr.mono (by omega)) (by rfl) L.g_law_function L.f_law_function.kp L.b_law_function .nil pass0 (pa_cons (pv 0) (pa_cons (pe_op op_sub (pv 1) pe_int) (pa_cons (pe_tup pa_nil) pa_nil))))))))))))), ?_⟩
    refine ⟨_, rfl, rfl, _, rfl, ite2 (fun e => ?_) (fun e => ?_)⟩
    · -- a list
      refine ⟨_, rfl, _, rfl, _, _, rfl, rfl, p, a, m, 3, dm _, st, by decide, by decide, by omega, fun H2 v ds at2 num2 k2 st2 b1 b2 hv hl hw => ?_⟩
      refine ⟨(by show 2 ≤ sizeLine; decide), fun z nz => ?_⟩
      exact q _ _ _ _ _ (k2.lay nz) (st2.lay nz) (by omega) (by omega) (tp_new nz (.cons (.str _) (.cons hv .nil))) fun at_ => by
        obtain ⟨s, es', w⟩ := hw (at_ + 1)
        exact ⟨_, _, .list (by omega) w⟩
    refine ⟨_, rfl, rfl, _, rfl, ite2 (fun e => ?_) (fun e => ?_)⟩
    · -- a map
      refine ⟨Nat.zero_le _, fun l nl => ?_⟩
      refine ⟨_, rfl, p, a, m, 3, rfl, st.lay nl, by decide, by omega, fun H1 i k1 st1 i0 i3 => ?_⟩
      have nlp : l ≠ p := st.ne nl
      refine ⟨i, rfl, by omega, by omega, for_range (n := i.toNat) (fun jx σ H' => ∃ (y4 y5 : Option V) (xs : List V) (ds : List PyData) (at' num' : Int), σ = [some (.ref p), some (.int ((j + 1 : Nat) : Int)), some (.int c), some (.ref l), y4, y5, none] ∧ H' l = some (.lst xs) ∧ xs.length = jx ∧ TpAll K H' xs ds ∧ Keep p H H' ∧ SD p at' num' H' ∧ a ≤ at' ∧ at' ≤ a + 1 + jx * (2 * cE j) ∧ (∀ at_, ∃ s ds', PW2 (LV j).E m ds num' at_ s ds'))
        ⟨none, none, [], [], a + 1, m, rfl, k1 _ _ upd_same nlp, rfl, .nil, (Keep.rfl'.lay nl).trans k1, st1, by omega, by omega, fun at_ => ⟨_, _, .nil⟩⟩ ?_ ?_⟩
      · rintro jx σ H' hj ⟨y4, y5, xs, ds, at', num', rfl, hD, hl, hx, k2, st2, a1, a2, hw⟩
        have hj3 : jx < 2 := by omega
        have hc3 : a + 1 + (jx : Int) * (2 * cE j) + 2 * cE j ≤ BIG ∧ ((jx + 1 : Nat) : Int) * (2 * cE j) = (jx : Int) * (2 * cE j) + 2 * cE j := by
          have h : jx = 0 ∨ jx = 1 := by omega
          rcases h with rfl | rfl <;> exact ⟨by omega, by omega⟩
        refine ⟨_, rfl, _, rfl, _, _, rfl, rfl, p, at', num', dd, st2, by omega, fun H3 v1 d1 at3 num3 k3 st3 b1 b2 hv1 hd1 => ?_⟩
        have hD3 := k3 _ _ hD nlp
        refine ⟨_, rfl, .inl ⟨rfl, _, SqL.of hD3⟩, _, rfl, _, rfl, _, rfl, _, _, rfl, rfl, p, at3, num3, dd, st3, by omega, fun H4 v2 d2 at4 num4 k4 st4 b3 b4 hv2 hd2 => ?_⟩
        have hD4 := k4 _ _ hD3 nlp
        refine ⟨(by show 2 ≤ sizeLine; decide), fun z nz => ?_⟩
        have hD5 := same_upd (o := .tup [v1, v2]) nz _ _ hD4
        refine ⟨l, _, _, rfl, rfl, hD5, (by rw [sizeLine_eq]; omega), _, _, xs ++ [.ref z], ds ++ [.tuple [d1, d2]], at4, num4, rfl, upd_same, by rw [List.length_append, hl]; rfl, ?_, fun b o e n => ?_, (st4.lay nz).short hD5 (by omega), by omega, by omega, fun at_ => ?_⟩
        · exact tpa_lst hD5 (tpa_snoc (tpa_same (same_upd nz) (st3.tpa k4 (st2.tpa k3 hx))) (tp_new nz (.cons (st3.tp k4 hv1) (.cons hv2 .nil))))
        · rw [upd_ne (fun z => by rw [z, nl] at e; cases e)]
          exact same_upd nz _ _ (k4 _ _ (k3 _ _ (k2 _ _ e n) n) n)
        · obtain ⟨s1, ds', w1⟩ := hw at_
          obtain ⟨t, d1', w2⟩ := hd1 (at_ + len (s1 ++ (if ds = [] then [] else [44])))
          obtain ⟨u, d2', w3⟩ := hd2 (at_ + len (s1 ++ (if ds = [] then [] else [44]) ++ t ++ [58]))
          exact ⟨_, _, .snoc w1 rfl w2 w3⟩
      rintro σ H' ⟨y4, y5, xs, ds, at', num', rfl, hD, hl, hx, k2, st2, a1, a2, hw⟩
      refine ⟨_, rfl, l, xs, rfl, .inl ⟨SqL.of hD, fun y ny => ⟨(by show 3 ≤ sizeLine; decide), fun z nz => ?_⟩⟩⟩
      have hl' : ds.length ≤ 2 := by
        rw [← tpa_len hx, hl]
        omega
      refine q _ _ _ at' num' ((k2.lay ny).lay nz) ((st2.lay ny).lay nz) a1 ?_ (tp_new nz (.cons (.str _) (.cons (.int _) (.cons (tp_new ny hx) .nil)))) fun at_ => ?_
      · have h : i.toNat = 0 ∨ i.toNat = 1 ∨ i.toNat = 2 := by omega
        rcases h with h | h | h <;> rw [h] at a2 <;> omega
      · obtain ⟨s, ds', w⟩ := hw at_
        exact ⟨_, _, .map hl' w⟩
    refine ⟨_, rfl, rfl, _, rfl, ite2 (fun e => ?_) (fun e => ?_)⟩
    · -- an element
      refine ⟨_, rfl, _, rfl, _, _, rfl, rfl, p, a, m, dd, st, by omega, fun H3 v1 d1 at3 num3 k3 st3 b1 b2 hv1 hd1 => ?_⟩
      refine ⟨_, rfl, _, rfl, _, rfl, _, _, rfl, rfl, p, at3, num3, dd, st3, by omega, fun H4 v2 d2 at4 num4 k4 st4 b3 b4 hv2 hd2 => ?_⟩
      refine ⟨(by show 4 ≤ sizeLine; decide), fun z nz => ?_⟩
      exact q _ _ _ _ _ ((k3.trans k4).lay nz) (st4.lay nz) (by omega) (by omega) (tp_new nz (.cons (.str _) (.cons (.int _) (.cons (st3.tp k4 hv1) (.cons hv2 .nil))))) fun at_ => by
        obtain ⟨s1, d1', w1⟩ := dr_inn hd1 at_
        obtain ⟨s2, d2', w2⟩ := hd2 (at_ + len s1 + 1)
        exact ⟨_, _, .index w1 w2⟩
    refine ⟨_, rfl, rfl, _, rfl, ite2 (fun e => ?_) (fun e => ?_)⟩
    · -- a field
      refine ⟨_, rfl, _, rfl, _, _, rfl, rfl, p, a, m, dd, st, by omega, fun H3 v1 d1 at3 num3 k3 st3 b1 b2 hv1 hd1 => ?_⟩
      refine ⟨(by show 2 ≤ sizeLine; decide), fun y ny => ?_⟩
      refine ⟨_, rfl, p, at3, num3, 2, rfl, st3.lay ny, by decide, by omega, fun H4 i k4 st4 i0 i2 => ?_⟩
      obtain ⟨x, hx, ex⟩ := pick_at (xs := [cs "x", cs "size"]) i0 i2
      rw [← xs2] at ex
      refine ⟨y, _, _, _, rfl, rfl, SqL.of (k4 _ _ upd_same (st3.ne ny)), ex, (by show 4 ≤ sizeLine; decide), fun z nz => ?_⟩
      exact q _ _ _ _ _ (((k3.lay ny).trans k4).lay nz) (st4.lay nz) (by omega) (by omega) (tp_new nz (.cons (.str _) (.cons (.int _) (.cons ((st3.lay ny).tp k4 (tp_same (same_upd ny) hv1)) (.cons (.str _) .nil))))) fun at_ => by
        obtain ⟨s1, d1', w1⟩ := dr_inn hd1 at_
        exact ⟨_, _, .field hx w1⟩
    refine ⟨_, rfl, rfl, _, rfl, ite2 (fun e => ?_) (fun e => ?_)⟩
    · -- a call
      refine ⟨_, rfl, _, rfl, _, _, rfl, rfl, p, a, m, dd, st, by omega, fun H3 v1 d1 at3 num3 k3 st3 b1 b2 hv1 hd1 => ?_⟩
      refine ⟨_, rfl, _, rfl, _, rfl, _, _, rfl, rfl, p, at3, num3, 2, dm _, st3, by decide, by decide, by omega, fun H4 v2 ds at4 num4 k4 st4 b3 b4 hv2 hl hw => ?_⟩
      refine ⟨(by show 4 ≤ sizeLine; decide), fun z nz => ?_⟩
      exact q _ _ _ _ _ ((k3.trans k4).lay nz) (st4.lay nz) (by omega) (by omega) (tp_new nz (.cons (.str _) (.cons (.int _) (.cons (st3.tp k4 hv1) (.cons hv2 .nil))))) fun at_ => by
        obtain ⟨s1, d1', w1⟩ := dr_inn hd1 at_
        obtain ⟨s2, es', w2⟩ := hw (at_ + len s1 + 1)
        exact ⟨_, _, .call (by omega) w1 w2⟩
    refine ⟨_, rfl, rfl, _, rfl, ite2 (fun e => ?_) (fun e => ?_)⟩
    · -- a method
      refine ⟨_, rfl, _, rfl, _, _, rfl, rfl, p, a, m, dd, st, by omega, fun H3 v1 d1 at3 num3 k3 st3 b1 b2 hv1 hd1 => ?_⟩
      refine ⟨_, rfl, (by show 2 ≤ sizeLine; decide), fun y ny => ?_⟩
      refine ⟨_, rfl, p, at3, num3, 2, rfl, st3.lay ny, by decide, by omega, fun H4 i k4 st4 i0 i2 => ?_⟩
      obtain ⟨x, hx, ex⟩ := pick_at (xs := [cs "push", cs "x"]) i0 i2
      rw [← px2] at ex
      refine ⟨y, _, _, _, rfl, rfl, SqL.of (k4 _ _ upd_same (st3.ne ny)), ex, _, rfl, _, rfl, _, _, rfl, rfl, p, at3 + 1, num3, 2, dm _, st4, by decide, by decide, by omega, fun H5 v2 ds at5 num5 k5 st5 b3 b4 hv2 hl hw => ?_⟩
      refine ⟨(by show 5 ≤ sizeLine; decide), fun z nz => ?_⟩
      exact q _ _ _ _ _ ((((k3.lay ny).trans k4).trans k5).lay nz) (st5.lay nz) (by omega) (by omega) (tp_new nz (.cons (.str _) (.cons (.int _) (.cons (st4.tp k5 ((st3.lay ny).tp k4 (tp_same (same_upd ny) hv1))) (.cons (.str _) (.cons hv2 .nil)))))) fun at_ => by
        obtain ⟨s1, d1', w1⟩ := dr_inn hd1 at_
        obtain ⟨s2, es', w2⟩ := hw (at_ + len (s1 ++ [46] ++ x) + 1)
        exact ⟨_, _, .invoke hx (by omega) w1 w2⟩
    refine ⟨_, rfl, rfl, _, rfl, ite2 (fun e => ?_) (fun e => ?_)⟩
    · refine ⟨_, rfl, _, rfl, p, a, m, rfl, st, by omega, fun H2 v d at2 num2 k2 st2 b1 b2 hv hd => ?_⟩
      exact q _ _ _ _ _ k2 st2 (by omega) (by omega) hv hd
    refine ⟨_, rfl, p, a, m, 4, rfl, st, by decide, by omega, fun H1 i k1 st1 i0 i4 => ?_⟩
    refine ⟨rfl, _, rfl, ite2 (fun e => ?_) (fun e => ?_)⟩
    · refine ⟨_, rfl, _, rfl, _, _, rfl, rfl, p, a + 1, m, 2, dm _, st1, by decide, by decide, by omega, fun H2 v ds at2 num2 k2 st2 b1 b2 hv hl hw => ?_⟩
      refine ⟨(by show 4 ≤ sizeLine; decide), fun z nz => ?_⟩
      exact q _ _ _ _ _ ((k1.trans k2).lay nz) (st2.lay nz) (by omega) (by omega) (tp_new nz (.cons (.str _) (.cons (.int _) (.cons (.str _) (.cons hv .nil))))) fun at_ => by
        obtain ⟨s, es', w⟩ := hw (at_ + 7 + 1)
        exact ⟨_, _, .super (by omega) w⟩
    · refine ⟨_, rfl, _, rfl, _, _, rfl, rfl, Nat.zero_le _, fun y ny => ?_⟩
      refine ⟨p, y, a + 1, m, [], dm _, .inl (.inl upd_same), Nat.zero_le _, st1.lay ny, by omega, fun H2 v d at2 num2 k2 st2 b1 b2 hv hd => ?_⟩
      exact q _ _ _ _ _ ((k1.lay ny).trans k2) st2 (by omega) (by omega) hv fun at_ => by
        obtain ⟨s, d', w⟩ := hd at_ (at_ + 3)
        exact ⟨_, _, .fn w⟩
end
end My
namespace My
open PySem L2 SX
open C8 (pss_cut tCut cutS_slice pe_gc)
theorem this1 : lit ["this"] = [cs "this"].map fun x => V.str (S x) := by decide +kernel
def nm3 : List (List Nat) := [cs "init", cs "x", cs "size"]
theorem cut_abcd {i : Int} (h0 : 0 ≤ i) (h4 : i < 4) : cutV (lit ["a", "b", "c", "d"]) none (some i) = (abcd.take i.toNat).map fun x => V.str (S x) := by
  have h : i = 0 ∨ i = 1 ∨ i = 2 ∨ i = 3 := by omega
  rcases h with rfl | rfl | rfl | rfl <;> decide +kernel
theorem cut_nm3 {i : Int} (h0 : 0 ≤ i) (h4 : i < 4) : cutV (lit ["init", "x", "size"]) none (some i) = (nm3.take i.toNat).map fun x => V.str (S x) := by
  have h : i = 0 ∨ i = 1 ∨ i = 2 ∨ i = 3 := by omega
  rcases h with rfl | rfl | rfl | rfl <;> decide +kernel
theorem tpa_strs {K : PySem.W.Frag} {H : Hp} : ∀ xs : List (List Nat), TpAll K H (xs.map fun x => V.str (S x)) (xs.map fun x => PyData.str (S x))
  | [] => .nil
  | _ :: r => .cons (.str _) (tpa_strs r)
def spBl (K : PySem.W.Frag) (n : Nat) : Sp := spR K [.int (n : Nat)] (LV n).B (cB n)
/-- the items of a level above 0 -/
def ItL (j : Nat) : Rl := ItF (LV j).E (LV (j + 1)).S (LV j).B
def cI (j : Nat) : Int := 30 + 8 * cB j + cE j + cS (j + 1)
def spIt (K : PySem.W.Frag) : Nat → Sp
  | 0 => spNo
  | j + 1 => fun vs H Q _ => ∃ (p l : Addr) (at_ num : Int) (xs : List V) (ds : List PyData), vs = [.ref p, .int ((j + 1 : Nat) : Int), .ref l] ∧ H l = some (.lst xs) ∧ TpAll K H xs ds ∧ xs.length ≤ 3 ∧ (∀ d ∈ ds, ∃ k fs, d = tup k fs) ∧ SD p at_ num H ∧ at_ + cI j ≤ BIG ∧
    ∀ H' v d at' num', Keep p H H' → SD p at' num' H' → at_ ≤ at' → at' ≤ at_ + cI j → Tp K H' v d → Dr (ItL j) num d num' → (∃ k fs, d = tup k fs) → (isGr d = true → ∀ e, ds.getLast? = some e → isGr e = false) → Q v H'
def spMe (K : PySem.W.Frag) : Nat → Sp
  | 0 => spNo
  | j + 1 => spR K [.int ((j + 1 : Nat) : Int)] (MemF (LV j).B) (6 + 3 * cB j)
theorem nogg_snoc {ds : List PyData} {d : PyData} (h : NoGG ds) (hd : isGr d = true → ∀ e, ds.getLast? = some e → isGr e = false) : NoGG (ds ++ [d]) := by
  intro i a b ha hb ga gb
  have hlt := (List.getElem?_eq_some_iff.mp hb).1
  rw [List.length_append, List.length_singleton] at hlt
  by_cases hi : i + 1 < ds.length
  · rw [List.getElem?_append_left (by omega)] at ha
    rw [List.getElem?_append_left hi] at hb
    exact h i a b ha hb ga gb
  · have hi' : i + 1 = ds.length := by omega
    rw [List.getElem?_append_left (by omega)] at ha
    rw [List.getElem?_append_right (by omega), hi', Nat.sub_self] at hb
    have e : d = b := by simpa using hb
    subst e
    have hl : ds.getLast? = some a := by
      rw [List.getLast?_eq_getElem?, show ds.length - 1 = i by omega]
      exact ha
    rw [hd gb a hl] at ga
    cases ga
theorem nogg_nil : NoGG [] := fun i a b ha _ _ _ => by simp at ha
section
variable {P : Program} {w : World} {K : PySem.W.Frag} {mg : Str → Option Value} {base : Heap} {aDraw aLeaf aTerms aExpression aCompound aAssignment aFunction aBlock aItem aMember aStatement aConditional : Addr} {dDraw dLeaf dTerms dExpression dCompound dAssignment dFunction dBlock dItem dMember dStatement dConditional : FuncData}
/-! ### _law_function -/
theorem scFunction : FnScope ["state", "deep", "params", "number", "names"] ["state", "deep", "params"] (defScope sFunction) := ⟨rfl, rfl, rfl, by decide +kernel, rfl, by decide +kernel, by decide +kernel⟩
theorem ok_function (L : TD K mg aDraw aLeaf aTerms aExpression aCompound aAssignment aFunction aBlock aItem aMember aStatement aConditional dDraw dLeaf dTerms dExpression dCompound dAssignment dFunction dBlock dItem dMember dStatement dConditional) (B : Bl mg) (j : Nat) {k : Nat} (hk : 1 ≤ k) (G_law_block : FnOk P w K mg base CX0 k aBlock dBlock ["state", "deep"] (spBl K j)) :
    FnOk P w K mg base CX0 (k + 1) aFunction dFunction ["state", "deep", "params"] (spFn K (j + 1)) := by
  have G_law_draw : FnOk P w K mg base CX0 1 aDraw dDraw ["state", "count"] spDraw := ok_draw L.f_law_draw B
  refine L.f_law_function.ok scFunction (fun vs H Q E h => ?_) (fun cdv A outer s H vs Q E hr h => ?_)
  · obtain ⟨p, q, a, n, pre, rfl, _⟩ := h
    rfl
  · obtain ⟨p, q0, a, m, pre, rfl, hpre, hpl, st, hb, q⟩ := h
    obtain ⟨j1, j2, j3⟩ := cc_nn j
    refine ⟨_, pss_cons (ps_set (i := 3) scFunction.nd rfl (.inl rfl) (pe_dget (hu_of hr) (pv 0) pe_str (fun _ _ => rfl)))
      (pss_cons (ps_asg (pe_op op_add (pv 3) pe_int) (pg_sub (pv 0) pe_str (set_dict (hu_of hr))))
      (pss_cons (ps_set (i := 4) scFunction.nd rfl (.inl rfl) (pe_slice sl_list (pe_lst (pa_cons pe_str (pa_cons pe_str (pa_cons pe_str (pa_cons pe_str pa_nil))))) po_none (po_some (pe_call G_law_draw (hr.mono (by omega)) (by rfl) L.g_law_draw L.f_law_draw.kp L.b_law_draw .nil pass0 (pa_cons (pv 0) (pa_cons pe_int pa_nil))))))
      (pss_one (ps_ret (pe_tup (pa_cons pe_str (pa_cons pe_int (pa_cons (pv 3) (pa_cons (pe_op op_catA (pv 2) (pe_callTy call_tuple_of (by rfl) B.tuple (by decide +kernel) (pa_cons (pv 4) pa_nil))) (pa_cons (pe_call G_law_block (hr.mono (by omega)) (by rfl) L.g_law_block L.f_law_block.kp L.b_law_block .nil pass0 (pa_cons (pv 0) (pa_cons (pv 1) pa_nil))) pa_nil)))))))))), ?_⟩
    obtain ⟨r, rs, hp, hl, h60, ha⟩ := id st
    have nrp : r ≠ p := fun z => by rw [z, hp] at hl; cases hl
    have gN : DGet H p (.str "number") (some (.int m)) := by
      have := DGet.k (k := .inr "number") hp
      rw [st_num] at this
      exact this
    have hput : DPut H p (.str "number") (.int (m + 1)) (upd H p (.dK (stK r a (m + 1)))) := by
      have := DPut.k (k := .inr "number") (v := .int (m + 1)) hp (by show 3 < sizeLine; rw [sizeLine_eq]; decide)
      rw [put_num] at this
      exact this
    refine ⟨_, rfl, p, _, rfl, gN, ?_⟩
    refine ⟨_, rfl, _, _, rfl, rfl, _, rfl, p, _, rfl, hput, ?_⟩
    have k0 : Keep p H (upd H p (.dK (stK r a (m + 1)))) := keep_upd
    have st0 : SD p a (m + 1) (upd H p (.dK (stK r a (m + 1)))) := ⟨r, rs, upd_same, by rw [upd_ne nrp]; exact hl, h60, ha⟩
    generalize upd H p (.dK (stK r a (m + 1))) = H0 at k0 st0
    refine ⟨(by show 4 ≤ sizeLine; decide), fun y ny => ?_⟩
    refine ⟨_, rfl, p, a, m + 1, 4, rfl, st0.lay ny, by decide, by omega, fun H2 i k2 st2 i0 i4 => ?_⟩
    refine ⟨_, rfl, y, _, rfl, SqL.of (k2 _ _ upd_same (st0.ne ny)), fun z nz => ?_⟩
    have hcut : upd H2 z (.lst (cutV (lit ["a", "b", "c", "d"]) none (some i))) = upd H2 z (.lst ((abcd.take i.toNat).map fun x => V.str (S x))) := by rw [cut_abcd i0 i4]
    have kz : Keep p H (upd H2 z (.lst ((abcd.take i.toNat).map fun x => V.str (S x)))) := ((k0.trans (Keep.rfl'.lay ny)).trans k2).lay nz
    have stz : SD p (a + 1) (m + 1) (upd H2 z (.lst ((abcd.take i.toNat).map fun x => V.str (S x)))) := st2.lay nz
    rw [show ([V.str "a", V.str "b", V.str "c", V.str "d"] : List V) = lit ["a", "b", "c", "d"] from rfl, hcut]
    have hz : upd H2 z (.lst ((abcd.take i.toNat).map fun x => V.str (S x))) z = some (.lst ((abcd.take i.toNat).map fun x => V.str (S x))) := upd_same
    generalize upd H2 z (.lst ((abcd.take i.toNat).map fun x => V.str (S x))) = H3 at kz stz hz
    have fin : ∀ {Hx H5 : Hp} {rr w : Addr} {v : V} {d : PyData} {at5 num5 : Int}, Keep p H Hx → SD p (a + 1) (m + 1) Hx → SqT K Hx rr ((pre ++ abcd.take i.toNat).map fun x => V.str (S x)) → Keep p Hx H5 → SD p at5 num5 H5 → a + 1 ≤ at5 → at5 ≤ a + 1 + cB j →
        Tp K H5 v d → Dr (LV j).B (m + 1) d num5 → H5 w = none → Q (.ref w) (upd H5 w (.tup [.str "function", .int 0, .int m, .ref rr, v])) := fun kx sx sq k5 st5 b1 b2 hv hd nw =>
      q _ _ (tup "function" [.int 0, .int m, strsD (pre ++ abcd.take i.toNat), _]) _ _ ((kx.trans k5).lay nw) (st5.lay nw) (by omega) (by omega) (tp_new nw (.cons (.str _) (.cons (.int _) (.cons (.int _) (.cons (.tup (sx.sqt k5 sq) (tpa_strs _)) (.cons hv .nil)))))) fun off at_ => by
        obtain ⟨s, d', w⟩ := hd (at_ + len (headN ([] ++ abcd.take i.toNat)))
        exact ⟨_, _, .mk (by omega) w⟩
    refine ⟨_, rfl, _, rfl, _, rfl, z, _, rfl, .inl ⟨SqL.of hz, fun t nt => ?_⟩⟩
    have sqt : SqT K (upd H3 t (.tup ((abcd.take i.toNat).map fun x => V.str (S x)))) t ((abcd.take i.toNat).map fun x => V.str (S x)) := .inl (.inl upd_same)
    have sqp : SqT K (upd H3 t (.tup ((abcd.take i.toNat).map fun x => V.str (S x)))) q0 (pre.map fun x => V.str (S x)) := sqt_same (same_upd nt) (st.sqt kz hpre)
    refine ⟨q0, t, _, _, rfl, rfl, sqp, sqt, ?_, fun e => ?_, fun e1 e2 => ?_, fun e1 e2 u nu => ?_⟩
    · rw [List.length_map, List.length_map, List.length_take, sizeLine_eq]
      omega
    · have ep : pre = [] := List.map_eq_nil_iff.mp e
      exact ⟨_, rfl, _, rfl, p, a + 1, m + 1, rfl, (stz.lay nt), by omega, fun H5 v d at5 num5 k5 st5 b1 b2 hv hd => ⟨(by show 5 ≤ sizeLine; decide), fun w nw => fin (kz.lay nt) (stz.lay nt) (by rw [show pre ++ abcd.take i.toNat = abcd.take i.toNat by rw [ep, List.nil_append]]; exact sqt) k5 st5 b1 b2 hv hd nw⟩⟩
    · have ep : abcd.take i.toNat = [] := List.map_eq_nil_iff.mp e2
      exact ⟨_, rfl, _, rfl, p, a + 1, m + 1, rfl, (stz.lay nt), by omega, fun H5 v d at5 num5 k5 st5 b1 b2 hv hd => ⟨(by show 5 ≤ sizeLine; decide), fun w nw => fin (kz.lay nt) (stz.lay nt) (by rw [show pre ++ abcd.take i.toNat = pre by rw [ep, List.append_nil]]; exact sqp) k5 st5 b1 b2 hv hd nw⟩⟩
    · exact ⟨_, rfl, _, rfl, p, a + 1, m + 1, rfl, ((stz.lay nt).lay nu), by omega, fun H5 v d at5 num5 k5 st5 b1 b2 hv hd => ⟨(by show 5 ≤ sizeLine; decide), fun w nw => fin ((kz.lay nt).lay nu) ((stz.lay nt).lay nu) (.inl (.inl (by rw [List.map_append]; exact upd_same))) k5 st5 b1 b2 hv hd nw⟩⟩
/-! ### _law_block -/
theorem scBlock : FnScope ["state", "deep", "items", "k"] ["state", "deep"] (defScope sBlock) := ⟨rfl, rfl, rfl, by decide +kernel, rfl, by decide +kernel, by decide +kernel⟩
theorem ok_block (L : TD K mg aDraw aLeaf aTerms aExpression aCompound aAssignment aFunction aBlock aItem aMember aStatement aConditional dDraw dLeaf dTerms dExpression dCompound dAssignment dFunction dBlock dItem dMember dStatement dConditional) (B : Bl mg) (n : Nat) {k : Nat} (hk : 1 ≤ k) (G_law_item : FnOk P w K mg base CX0 k aItem dItem ["state", "deep", "items"] (spIt K n)) :
    FnOk P w K mg base CX0 (k + 1) aBlock dBlock ["state", "deep"] (spBl K n) := by
  have G_law_draw : FnOk P w K mg base CX0 1 aDraw dDraw ["state", "count"] spDraw := ok_draw L.f_law_draw B
  refine L.f_law_block.ok scBlock (fun vs H Q E h => ?_) (fun cdv A outer s H vs Q E hr h => ?_)
  · obtain ⟨p, a, m, rfl, _⟩ := h
    rfl
  · obtain ⟨p, a, m, rfl, st, hb, q⟩ := h
    refine ⟨_, pss_cons (ps_set (i := 2) scBlock.nd rfl (.inl rfl) (pe_lst pa_nil))
      (pss_cut (ps_if (pt_cmpR op_gt (pv 1) pe_int (nomark _))
        (pss_one (ps_for PassesOwn.never rfl (pi_range1 (by rfl) B.range (pa_cons (pe_call G_law_draw (hr.mono (by omega)) (by rfl) L.g_law_draw L.f_law_draw.kp L.b_law_draw .nil pass0 (pa_cons (pv 0) (pa_cons pe_int pa_nil))) pa_nil)) (pg_name (i := 3) scBlock.nd rfl (.inl rfl))
          (pss_one (ps_expr (pe_bm PySem.F.plainAttrs_list PySem.F.slot_list_append PySem.F.type_list_append mt_append (pv 2) (pa_cons (pe_call G_law_item (hr.mono (by omega)) (by rfl) L.g_law_item L.f_law_item.kp L.b_law_item .nil pass0 (pa_cons (pv 0) (pa_cons (pv 1) (pa_cons (pv 2) pa_nil)))) pa_nil))))))
        pss_nil)
      (pss_one (ps_ret (pe_tup (pa_cons pe_str (pa_cons (pe_callTy call_tuple_of (by rfl) B.tuple (by decide +kernel) (pa_cons (pv 2) pa_nil)) pa_nil)))))), ?_⟩
    refine ⟨Nat.zero_le _, fun l nl => ?_⟩
    have nlp : l ≠ p := st.ne nl
    let M : List (Option V) → Hp → Prop := fun σ H' => ∃ (y3 : Option V) (xs : List V) (ds : List PyData) (at' num' : Int), σ = [some (.ref p), some (.int (n : Nat)), some (.ref l), y3] ∧ H' l = some (.lst xs) ∧ TpAll K H' xs ds ∧ Keep p H H' ∧ SD p at' num' H' ∧ a ≤ at' ∧ at' ≤ a + cB n ∧ Dr (LV n).B m (My.dBlk ds) num'
    refine ⟨M, ⟨_, rfl, _, _, rfl, rfl, _, rfl, ite2 (fun e => ?_) (fun e => ?_)⟩, ?_⟩
    · obtain ⟨j, rfl⟩ : ∃ j, n = j + 1 := by
        cases n with
        | zero => exact absurd e (by decide)
        | succ j => exact ⟨j, rfl⟩
      obtain ⟨j1, j2, j3⟩ := cc_nn j
      obtain ⟨g1, g2, g3⟩ := cc_nn (j + 1)
      have eB : cB (j + 1) = 1 + 3 * cI j := rfl
      have hcI : 0 ≤ cI j := by
        unfold cI
        omega
      refine ⟨_, rfl, p, a, m, 4, rfl, st.lay nl, by decide, by omega, fun H1 i k1 st1 i0 i4 => ?_⟩
      refine ⟨i, rfl, by omega, by omega, for_range (n := i.toNat) (fun jx σ H' => ∃ (y3 : Option V) (xs : List V) (ds : List PyData) (at' num' : Int), σ = [some (.ref p), some (.int ((j + 1 : Nat) : Int)), some (.ref l), y3] ∧ H' l = some (.lst xs) ∧ xs.length = jx ∧ TpAll K H' xs ds ∧ Keep p H H' ∧ SD p at' num' H' ∧ a ≤ at' ∧ at' ≤ a + 1 + jx * cI j ∧ NoGG ds ∧ (∀ d ∈ ds, ∃ k fs, d = tup k fs) ∧ (∀ at_, ∃ s ds', IW (ItL j) [10] m ds num' at_ s ds'))
        ⟨none, [], [], a + 1, m, rfl, k1 _ _ upd_same nlp, rfl, .nil, (Keep.rfl'.lay nl).trans k1, st1, by omega, by omega, nogg_nil, (fun d hd => by cases hd), fun at_ => ⟨_, _, .nil⟩⟩ ?_ ?_⟩
      · rintro jx σ H' hj ⟨y3, xs, ds, at', num', rfl, hD, hl, hx, k2, st2, a1, a2, hg, hh, hw⟩
        have hc3 : a + 1 + (jx : Int) * cI j + cI j ≤ BIG ∧ ((jx + 1 : Nat) : Int) * cI j = (jx : Int) * cI j + cI j := by
          have h : jx = 0 ∨ jx = 1 ∨ jx = 2 := by omega
          rcases h with rfl | rfl | rfl <;> exact ⟨by omega, by omega⟩
        refine ⟨_, rfl, .inl ⟨rfl, _, SqL.of hD⟩, _, rfl, _, rfl, _, rfl, p, l, at', num', xs, ds, rfl, hD, hx, by omega, hh, st2, by omega, fun H3 v d at3 num3 k3 st3 b1 b2 hv hd hk' hgr => ?_⟩
        have hD3 := k3 _ _ hD nlp
        refine ⟨l, _, _, rfl, rfl, hD3, (by rw [sizeLine_eq]; omega), _, xs ++ [v], ds ++ [d], at3, num3, rfl, upd_same, by rw [List.length_append, hl]; rfl, tpa_lst hD3 (tpa_snoc (st2.tpa k3 hx) hv), fun b o e n => ?_, st3.short hD3 (by omega), by omega, by omega, nogg_snoc hg hgr, fun d' hd' => ?_, fun at_ => ?_⟩
        · rw [upd_ne (fun z => by rw [z, nl] at e; cases e)]
          exact k3 _ _ (k2 _ _ e n) n
        · rcases List.mem_append.mp hd' with z | z
          · exact hh d' z
          · rw [List.mem_singleton] at z
            subst z
            exact hk'
        · obtain ⟨s1, ds', w1⟩ := hw at_
          obtain ⟨t, d', w2⟩ := hd (at_ + len s1)
          exact ⟨_, _, .snoc w1 w2⟩
      · rintro σ H' ⟨y3, xs, ds, at', num', rfl, hD, hl, hx, k2, st2, a1, a2, hg, hh, hw⟩
        have hl3 : ds.length ≤ 3 := by
          rw [← tpa_len hx, hl]
          omega
        refine ⟨_, xs, ds, at', num', rfl, hD, hx, k2, st2, a1, ?_, fun at_ => ?_⟩
        · have h : i.toNat = 0 ∨ i.toNat = 1 ∨ i.toNat = 2 ∨ i.toNat = 3 := by omega
          rcases h with h | h | h | h <;> rw [h] at a2 <;> omega
        · obtain ⟨s1, ds', w1⟩ := hw (at_ + 1)
          exact ⟨_, _, .mk hl3 hg w1⟩
    · have hn : n = 0 := by
        cases n with
        | zero => rfl
        | succ j => exact absurd (decide_eq_true (by omega : (0 : Int) < ((j + 1 : Nat) : Int))) e
      subst hn
      refine ⟨none, [], [], a, m, rfl, upd_same, .nil, Keep.rfl'.lay nl, st.lay nl, by omega, by show a ≤ a + 0; omega, fun at_ => ⟨_, _, .mk (Nat.zero_le _) nogg_nil .nil⟩⟩
    rintro σ H' ⟨y3, xs, ds, at', num', rfl, hD, hx, k2, st2, a1, a2, hw⟩
    refine ⟨_, rfl, l, xs, rfl, .inl ⟨SqL.of hD, fun y ny => ⟨(by show 2 ≤ sizeLine; decide), fun z nz => ?_⟩⟩⟩
    exact q _ _ _ at' num' ((k2.lay ny).lay nz) ((st2.lay ny).lay nz) a1 a2 (tp_new nz (.cons (.str _) (.cons (tp_new ny hx) .nil))) hw
end
end My
namespace My
open PySem L2 SX
open C8 (pss_cut tCut cutS_slice pe_gc)
theorem atI_last {α : Type} {xs : List α} {v : α} (h : xs.getLast? = some v) : atI xs (-1) = some v := by
  have hl : xs ≠ [] := fun e => by rw [e] at h; cases h
  have hp : 0 < xs.length := List.length_pos_iff.mpr hl
  unfold atI ixN
  rw [if_neg (by decide), if_pos (by omega)]
  show xs[((-1 : Int) + (xs.length : Int)).toNat]? = some v
  rw [show ((-1 : Int) + (xs.length : Int)).toNat = xs.length - 1 by omega, ← List.getLast?_eq_getElem?]
  exact h
theorem atI_zero {α : Type} {x : α} {r : List α} : atI (x :: r) 0 = some x := by
  show atI _ ((0 : Nat) : Int) = _
  exact atI_nat rfl
theorem tpa_last {K : PySem.W.Frag} {H : Hp} : ∀ {xs : List V} {ds : List PyData}, TpAll K H xs ds → ∀ {d}, ds.getLast? = some d → ∃ v, xs.getLast? = some v ∧ Tp K H v d
  | _, _, .nil, d, h => by cases h
  | [v], [d0], .cons h0 .nil, d, h => by
    have e : d0 = d := by simpa using h
    subst e
    exact ⟨v, rfl, h0⟩
  | v :: v2 :: vs, d0 :: d2 :: ds, .cons h0 (.cons h1 ha), d, h => by
    have h' : (d2 :: ds).getLast? = some d := by rw [List.getLast?_cons_cons] at h; exact h
    obtain ⟨w, e, t⟩ := tpa_last (.cons h1 ha) h'
    exact ⟨w, by rw [List.getLast?_cons_cons]; exact e, t⟩
theorem tp_head {K : PySem.W.Frag} {H : Hp} {v : V} {k : Str} {fs : List PyData} (h : Tp K H v (tup k fs)) : ∃ q r, v = .ref q ∧ SqT K H q (.str k :: r) ∧ TpAll K H r fs := by
  unfold tup at h
  cases h with
  | tup s a =>
    cases a with
    | cons h0 a =>
      cases h0
      exact ⟨_, _, rfl, s, a⟩
theorem not_gr {k : Str} {fs : List PyData} (h : (k == "group") = false) : isGr (tup k fs) = true → False := fun z => by
  have z' : (k == "group") = true := z
  rw [h] at z'
  cases z'
def spSt (K : PySem.W.Frag) (n : Nat) : Sp := spR K [.int (n : Nat)] (LV n).S (cS n)
/-- a statement has a head -/
theorem st_head {E0 E S B It : Rl} (hB : B = noR ∨ B = BlF It) {a b at_ : Int} {d d' : D} {s : List Nat} (w : StF E0 E S B a d b at_ s d') : ∃ k fs, d = tup k fs ∧ (k == ("group" : Str)) = false := by
  cases w with
  | block w =>
    rcases hB with rfl | rfl
    · exact w.elim
    · cases w
      exact ⟨_, _, rfl, by decide +kernel⟩
  | _ => exact ⟨_, _, rfl, by decide +kernel⟩
theorem lv_head : ∀ (n : Nat) {a b at_ : Int} {d d' : D} {s : List Nat}, (LV n).S a d b at_ s d' → ∃ k fs, d = tup k fs ∧ (k == ("group" : Str)) = false
  | 0, _, _, _, _, _, _, w => st_head (It := noR) (.inl rfl) w
  | 1, _, _, _, _, _, _, w => st_head (.inr rfl) w
  | n + 2, _, _, _, _, _, _, w => st_head (.inr rfl) w
section
variable {P : Program} {w : World} {K : PySem.W.Frag} {mg : Str → Option Value} {base : Heap} {aDraw aLeaf aTerms aExpression aCompound aAssignment aFunction aBlock aItem aMember aStatement aConditional : Addr} {dDraw dLeaf dTerms dExpression dCompound dAssignment dFunction dBlock dItem dMember dStatement dConditional : FuncData}
/-! ### _law_item -/
theorem scItem : FnScope ["state", "deep", "items", "choice", "k"] ["state", "deep", "items"] (defScope sItem) := ⟨rfl, rfl, rfl, by decide +kernel, rfl, by decide +kernel, by decide +kernel⟩
theorem ok_item (L : TD K mg aDraw aLeaf aTerms aExpression aCompound aAssignment aFunction aBlock aItem aMember aStatement aConditional dDraw dLeaf dTerms dExpression dCompound dAssignment dFunction dBlock dItem dMember dStatement dConditional) (B : Bl mg) (j : Nat) {k : Nat} (hk : 1 ≤ k) (G_law_expression : FnOk P w K mg base CX0 k aExpression dExpression ["state", "deep"] (spE K (j + 1)))
    (G_law_member : FnOk P w K mg base CX0 k aMember dMember ["state", "deep"] (spMe K (j + 1))) (G_law_statement : FnOk P w K mg base CX0 k aStatement dStatement ["state", "deep"] (spSt K (j + 1))) :
    FnOk P w K mg base CX0 (k + 1) aItem dItem ["state", "deep", "items"] (spIt K (j + 1)) := by
  have G_law_draw : FnOk P w K mg base CX0 1 aDraw dDraw ["state", "count"] spDraw := ok_draw L.f_law_draw B
  refine L.f_law_item.ok scItem (fun vs H Q E h => ?_) (fun cdv A outer s H vs Q E hr h => ?_)
  · obtain ⟨p, l, a, n, xs, ds, rfl, _⟩ := h
    rfl
  · obtain ⟨p, l, a, m, xs0, ds0, rfl, hl0, hx0, hlen, hh, st, hb, q⟩ := h
    obtain ⟨j1, j2, j3⟩ := cc_nn j
    obtain ⟨g1, g2, g3⟩ := cc_nn (j + 1)
    have ecI : cI j = 30 + 8 * cB j + cE j + cS (j + 1) := rfl
    have ed : ((j + 1 : Nat) : Int) - 1 = (j : Nat) := by omega
    have dd : [V.ref p, V.int (((j + 1 : Nat) : Int) - 1)] = [V.ref p, V.int (j : Nat)] := by rw [ed]
    refine ⟨_, pss_cons (ps_set (i := 3) scItem.nd rfl (.inl rfl) (pe_call G_law_draw (hr.mono (by omega)) (by rfl) L.g_law_draw L.f_law_draw.kp L.b_law_draw .nil pass0 (pa_cons (pv 0) (pa_cons pe_int pa_nil))))
      (pss_cons (ps_if (pt_cmpR op_lt (pv 3) pe_int (nomark _))
        (pss_one (ps_ret (pe_tup (pa_cons pe_str (pa_cons pe_int (pa_cons (pe_ix ix_list (pe_lst (pa_cons pe_str (pa_cons pe_str (pa_cons pe_str pa_nil)))) (pe_call G_law_draw (hr.mono (by omega)) (by rfl) L.g_law_draw L.f_law_draw.kp L.b_law_draw .nil pass0 (pa_cons (pv 0) (pa_cons pe_int pa_nil))) (fun _ _ => rfl)) (pa_cons (pe_call G_law_expression (hr.mono (by omega)) (by rfl) L.g_law_expression L.f_law_expression.kp L.b_law_expression .nil pass0 (pa_cons (pv 0) (pa_cons (pe_op op_sub (pv 1) pe_int) pa_nil))) pa_nil)))))))
        pss_nil)
      (pss_cons (ps_if (PW.pt (pw_and (pt_cmpR op_eq (pv 3) pe_int (nomark _)) (pw_and1 (PW.pt (pw_or (pt_cmpR op_eq (pe_callB call_len_seq (by rfl) B.len PySem.boot_len (pa_cons (pv 2) pa_nil)) pe_int (nomark _)) (pw_or1 (pt_cmpR op_ne (pe_ix ix_tup (pe_ix ix_list (pv 2) (pe_un un_neg pe_int) (fun _ _ => rfl)) pe_int (fun _ _ => rfl)) pe_str (nomark _))))))))
        (pss_one (ps_ret (pe_tup (pa_cons pe_str (pa_cons (pe_callTy call_tuple_of (by rfl) B.tuple (by decide +kernel) (pa_cons (pe_lc (own := [("k", 4)]) (g := gName 4) (tt := tYes) (by rfl) scItem.nd (pi_range1 (by rfl) B.range (pa_cons (pe_op op_add pe_int (pe_call G_law_draw (hr.mono (by omega)) (by rfl) L.g_law_draw L.f_law_draw.kp L.b_law_draw .nil pass0 (pa_cons (pv 0) (pa_cons pe_int pa_nil)))) pa_nil)) (blkOk_by (own := [("k", 4)]) (N := ["state", "deep", "items", "choice", "k"]) (sc := defScope sItem) (by decide +kernel)) (fun _ _ _ _ _ => pg_name (i := 4) scItem.nd rfl (.inl rfl)) (fun _ _ _ _ _ => pts_nil) (fun _ _ _ _ _ => (pe_call G_law_member (hr.mono (by omega)) (by rfl) L.g_law_member L.f_law_member.kp L.b_law_member .nil pass0 (pa_cons (pv 0) (pa_cons (pv 1) pa_nil))))) pa_nil)) pa_nil)))))
        pss_nil)
      (pss_one (ps_ret (pe_call G_law_statement (hr.mono (by omega)) (by rfl) L.g_law_statement L.f_law_statement.kp L.b_law_statement .nil pass0 (pa_cons (pv 0) (pa_cons (pv 1) pa_nil))))))), ?_⟩
    refine ⟨_, rfl, p, a, m, 12, rfl, st, by decide, by omega, fun H1 c k1 st1 c0 c12 => ?_⟩
    have nlp : l ≠ p := fun z => by
      obtain ⟨r, rs, h1, _⟩ := st
      rw [z, h1] at hl0
      cases hl0
    have hl1 := k1 _ _ hl0 nlp
    have hx1 := st.tpa k1 hx0
    refine ⟨_, rfl, _, _, rfl, rfl, _, rfl, ite2 (fun e => ?_) (fun e => ?_)⟩
    · refine ⟨(by show 3 ≤ sizeLine; decide), fun y ny => ?_⟩
      refine ⟨_, rfl, p, a + 1, m, 3, rfl, st1.lay ny, by decide, by omega, fun H2 i k2 st2 i0 i6 => ?_⟩
      obtain ⟨x, hx, ex⟩ := pick_at (xs := [cs "a", cs "b", cs "v2"]) i0 i6
      rw [← ab3v] at ex
      refine ⟨y, _, _, _, rfl, rfl, SqL.of (k2 _ _ upd_same (st1.ne ny)), ex, _, rfl, _, rfl, _, _, rfl, rfl, p, a + 1 + 1, m, dd, st2, by omega, fun H3 v d at3 num3 k3 st3 b1 b2 hv hd => ?_⟩
      refine ⟨(by show 4 ≤ sizeLine; decide), fun z nz => ?_⟩
      exact q _ _ _ _ _ ((((k1.lay ny).trans k2).trans k3).lay nz) (st3.lay nz) (by omega) (by omega) (tp_new nz (.cons (.str _) (.cons (.int _) (.cons (.str _) (.cons hv .nil))))) (fun at_ => by
        obtain ⟨s, d', w⟩ := hd (at_ + 4 + len x + 1)
        exact ⟨_, _, .let_ hx w⟩) ⟨_, _, rfl⟩ (fun z => (not_gr (by decide +kernel) z).elim)
    refine ⟨_, rfl, rfl, _, rfl, ite2 (fun e2 => ?_) (fun e2 => iteF ?_)⟩
    · refine ⟨_, rfl, l, _, rfl, .inl (SqL.of hl1), rfl, _, rfl, ite2 (fun e3 => iteT ?_) (fun e3 => ?_)⟩
      · have h0 : xs0.length = 0 := by
          have := V.int.inj (of_decide_eq_true e3)
          omega
        have hd0 : ds0 = [] := List.eq_nil_of_length_eq_zero (by rw [← tpa_len hx0]; exact h0)
        refine ⟨_, rfl, p, a + 1, m, 2, rfl, st1, by decide, by omega, fun H2 i k2 st2 i0 i2 => ?_⟩
        refine ⟨_, _, rfl, rfl, 1 + i, rfl, by omega, by omega, fun Dl nD => lc_range (fun jx H' => ∃ (xs : List V) (ds : List PyData) (at' num' : Int), H' Dl = some (.lst xs) ∧ xs.length = jx ∧ TpAll K H' xs ds ∧ Keep p H2 H' ∧ SD p at' num' H' ∧ a ≤ at' ∧ at' ≤ a + 2 + jx * (6 + 3 * cB j) ∧ (∀ at_, ∃ s ds', IW (MemF (LV j).B) [32] m ds num' at_ s ds')) ?_ ?_ ?_⟩
        · exact ⟨[], [], a + 1 + 1, m, upd_same, rfl, .nil, Same.keep (same_upd nD), st2.lay nD, by omega, by omega, fun at_ => ⟨_, _, .nil⟩⟩
        · rintro jx H' hj ⟨xs, ds, at', num', hD, hl, hx, k3, st3, a1, a2, hw⟩
          have hc3 : a + 2 + (jx : Int) * (6 + 3 * cB j) + (6 + 3 * cB j) ≤ BIG ∧ ((jx + 1 : Nat) : Int) * (6 + 3 * cB j) = (jx : Int) * (6 + 3 * cB j) + (6 + 3 * cB j) := by
            have h : jx = 0 ∨ jx = 1 := by omega
            rcases h with rfl | rfl <;> exact ⟨by omega, by omega⟩
          refine ⟨rfl, _, rfl, _, rfl, p, at', num', rfl, st3, by omega, fun H4 v d at2 num2 k4 st4 b1 b2 hv hd => ?_⟩
          have nDp : Dl ≠ p := st2.ne nD
          have hD4 : H4 Dl = some (.lst xs) := k4 _ _ hD nDp
          refine ⟨xs, hD4, (by rw [sizeLine_eq]; omega), xs ++ [v], ds ++ [d], at2, num2, upd_same, by rw [List.length_append, hl]; rfl, tpa_lst hD4 (tpa_snoc (st3.tpa k4 hx) hv), fun b o e n => ?_, st4.short hD4 (by omega), by omega, by omega, fun at_ => ?_⟩
          · rw [upd_ne (fun z => by rw [z, nD] at e; cases e)]
            exact k4 _ _ (k3 _ _ e n) n
          · obtain ⟨s1, ds', w1⟩ := hw at_
            obtain ⟨t, d', w2⟩ := hd (at_ + len s1)
            exact ⟨_, _, .snoc w1 w2⟩
        rintro H' ⟨xs, ds, at', num', hD, hl, hx, k3, st3, a1, a2, hw⟩
        refine ⟨Dl, xs, rfl, .inl ⟨SqL.of hD, fun y ny => ⟨(by show 2 ≤ sizeLine; decide), fun z nz => ?_⟩⟩⟩
        have hl' : ds.length = (1 + i).toNat := by rw [← tpa_len hx, hl]
        refine q _ _ _ at' num' ((((k1.trans k2).trans k3).lay ny).lay nz) ((st3.lay ny).lay nz) (by omega) ?_ (tp_new nz (.cons (.str _) (.cons (tp_new ny hx) .nil))) (fun at_ => ?_) ⟨_, _, rfl⟩ (fun _ => fun ee he => by rw [hd0] at he; cases he)
        · have h : (1 + i).toNat = 1 ∨ (1 + i).toNat = 2 := by omega
          rcases h with h | h <;> rw [h] at a2 <;> omega
        · obtain ⟨s, ds', w⟩ := hw at_
          exact ⟨_, _, .group (by omega) (by omega) w⟩
      · have h0 : ds0 ≠ [] := fun z => by
          subst z
          cases hx0
          exact e3 (decide_eq_true rfl)
        obtain ⟨dl, hdl⟩ : ∃ dl, ds0.getLast? = some dl := ⟨_, List.getLast?_eq_some_getLast h0⟩
        obtain ⟨vl, hvl, htl⟩ := tpa_last hx1 hdl
        obtain ⟨kl, fl, rfl⟩ := hh dl (List.mem_of_getLast? hdl)
        obtain ⟨ql, rl, rfl, hql, _⟩ := tp_head htl
        refine ⟨_, rfl, _, rfl, l, _, _, _, rfl, rfl, SqL.of hl1, atI_last hvl, ql, _, _, V.str kl, rfl, rfl, hql, atI_zero, rfl, _, rfl, ite2 (fun e4 => ?_) (fun e4 => ?_)⟩
        · have hkl : (kl == ("group" : Str)) = false := by
            by_cases z : kl = "group"
            · rw [z] at e4
              exact absurd e4 (by decide +kernel)
            · simpa using z
          refine ⟨_, rfl, p, a + 1, m, 2, rfl, st1, by decide, by omega, fun H2 i k2 st2 i0 i2 => ?_⟩
          refine ⟨_, _, rfl, rfl, 1 + i, rfl, by omega, by omega, fun Dl nD => lc_range (fun jx H' => ∃ (xs : List V) (ds : List PyData) (at' num' : Int), H' Dl = some (.lst xs) ∧ xs.length = jx ∧ TpAll K H' xs ds ∧ Keep p H2 H' ∧ SD p at' num' H' ∧ a ≤ at' ∧ at' ≤ a + 2 + jx * (6 + 3 * cB j) ∧ (∀ at_, ∃ s ds', IW (MemF (LV j).B) [32] m ds num' at_ s ds')) ?_ ?_ ?_⟩
          · exact ⟨[], [], a + 1 + 1, m, upd_same, rfl, .nil, Same.keep (same_upd nD), st2.lay nD, by omega, by omega, fun at_ => ⟨_, _, .nil⟩⟩
          · rintro jx H' hj ⟨xs, ds, at', num', hD, hl, hx, k3, st3, a1, a2, hw⟩
            have hc3 : a + 2 + (jx : Int) * (6 + 3 * cB j) + (6 + 3 * cB j) ≤ BIG ∧ ((jx + 1 : Nat) : Int) * (6 + 3 * cB j) = (jx : Int) * (6 + 3 * cB j) + (6 + 3 * cB j) := by
              have h : jx = 0 ∨ jx = 1 := by omega
              rcases h with rfl | rfl <;> exact ⟨by omega, by omega⟩
            refine ⟨rfl, _, rfl, _, rfl, p, at', num', rfl, st3, by omega, fun H4 v d at2 num2 k4 st4 b1 b2 hv hd => ?_⟩
            have nDp : Dl ≠ p := st2.ne nD
            have hD4 : H4 Dl = some (.lst xs) := k4 _ _ hD nDp
            refine ⟨xs, hD4, (by rw [sizeLine_eq]; omega), xs ++ [v], ds ++ [d], at2, num2, upd_same, by rw [List.length_append, hl]; rfl, tpa_lst hD4 (tpa_snoc (st3.tpa k4 hx) hv), fun b o e n => ?_, st4.short hD4 (by omega), by omega, by omega, fun at_ => ?_⟩
            · rw [upd_ne (fun z => by rw [z, nD] at e; cases e)]
              exact k4 _ _ (k3 _ _ e n) n
            · obtain ⟨s1, ds', w1⟩ := hw at_
              obtain ⟨t, d', w2⟩ := hd (at_ + len s1)
              exact ⟨_, _, .snoc w1 w2⟩
          rintro H' ⟨xs, ds, at', num', hD, hl, hx, k3, st3, a1, a2, hw⟩
          refine ⟨Dl, xs, rfl, .inl ⟨SqL.of hD, fun y ny => ⟨(by show 2 ≤ sizeLine; decide), fun z nz => ?_⟩⟩⟩
          have hl' : ds.length = (1 + i).toNat := by rw [← tpa_len hx, hl]
          refine q _ _ _ at' num' ((((k1.trans k2).trans k3).lay ny).lay nz) ((st3.lay ny).lay nz) (by omega) ?_ (tp_new nz (.cons (.str _) (.cons (tp_new ny hx) .nil))) (fun at_ => ?_) ⟨_, _, rfl⟩ (fun _ => fun ee he => by rw [hdl] at he; cases he; exact hkl)
          · have h : (1 + i).toNat = 1 ∨ (1 + i).toNat = 2 := by omega
            rcases h with h | h <;> rw [h] at a2 <;> omega
          · obtain ⟨s, ds', w⟩ := hw at_
            exact ⟨_, _, .group (by omega) (by omega) w⟩
        · refine ⟨_, rfl, _, rfl, p, a + 1, m, rfl, st1, by omega, fun H2 v d at2 num2 k2 st2 b1 b2 hv hd => ?_⟩
          obtain ⟨s0, d0, w0⟩ := hd 0
          obtain ⟨kk, fs, ek, hk'⟩ := lv_head (j + 1) w0
          exact q _ _ _ _ _ (k1.trans k2) st2 (by omega) (by omega) hv (fun at_ => by
            obtain ⟨s, d', w⟩ := hd at_
            exact ⟨_, _, .st w⟩) ⟨kk, fs, ek⟩ (fun z => (not_gr hk' (ek ▸ z)).elim)
    · refine ⟨_, rfl, _, rfl, p, a + 1, m, rfl, st1, by omega, fun H2 v d at2 num2 k2 st2 b1 b2 hv hd => ?_⟩
      obtain ⟨s0, d0, w0⟩ := hd 0
      obtain ⟨kk, fs, ek, hk'⟩ := lv_head (j + 1) w0
      exact q _ _ _ _ _ (k1.trans k2) st2 (by omega) (by omega) hv (fun at_ => by
        obtain ⟨s, d', w⟩ := hd at_
        exact ⟨_, _, .st w⟩) ⟨kk, fs, ek⟩ (fun z => (not_gr hk' (ek ▸ z)).elim)
/-! ### _law_member -/
theorem scMember : FnScope ["state", "deep", "parent", "names", "name"] ["state", "deep"] (defScope sMember) := ⟨rfl, rfl, rfl, by decide +kernel, rfl, by decide +kernel, by decide +kernel⟩
theorem ok_member (L : TD K mg aDraw aLeaf aTerms aExpression aCompound aAssignment aFunction aBlock aItem aMember aStatement aConditional dDraw dLeaf dTerms dExpression dCompound dAssignment dFunction dBlock dItem dMember dStatement dConditional) (B : Bl mg) (j : Nat) {k : Nat} (hk : 1 ≤ k) (G_law_function : FnOk P w K mg base CX0 k aFunction dFunction ["state", "deep", "params"] (spFn K (j + 1))) :
    FnOk P w K mg base CX0 (k + 1) aMember dMember ["state", "deep"] (spMe K (j + 1)) := by
  have G_law_draw : FnOk P w K mg base CX0 1 aDraw dDraw ["state", "count"] spDraw := ok_draw L.f_law_draw B
  refine L.f_law_member.ok scMember (fun vs H Q E h => ?_) (fun cdv A outer s H vs Q E hr h => ?_)
  · obtain ⟨p, a, m, rfl, _⟩ := h
    rfl
  · obtain ⟨p, a, m, rfl, st, hb, q⟩ := h
    obtain ⟨j1, j2, j3⟩ := cc_nn j
    have ed : ((j + 1 : Nat) : Int) - 1 = (j : Nat) := by omega
    have dm : ∀ z : V, [V.ref p, V.int (((j + 1 : Nat) : Int) - 1), z] = [V.ref p, V.int (j : Nat), z] := fun z => by rw [ed]
    refine ⟨_, pss_cons (ps_if (pt_cmpR op_gt (pe_call G_law_draw (hr.mono (by omega)) (by rfl) L.g_law_draw L.f_law_draw.kp L.b_law_draw .nil pass0 (pa_cons (pv 0) (pa_cons pe_int pa_nil))) pe_int (nomark _))
        (pss_one (ps_ret (pe_tup (pa_cons pe_int (pa_cons pe_str (pa_cons (pe_call G_law_function (hr.mono (by omega)) (by rfl) L.g_law_function L.f_law_function.kp L.b_law_function .nil pass0 (pa_cons (pv 0) (pa_cons (pe_op op_sub (pv 1) pe_int) (pa_cons (pe_tup pa_nil) pa_nil)))) pa_nil))))))
        pss_nil)
      (pss_cons (ps_set (i := 2) scMember.nd rfl (.inl rfl) (pe_ix ix_list (pe_lst (pa_cons pe_non (pa_cons (pe_tup (pa_cons pe_str (pa_cons pe_int (pa_cons pe_str pa_nil)))) pa_nil))) (pe_call G_law_draw (hr.mono (by omega)) (by rfl) L.g_law_draw L.f_law_draw.kp L.b_law_draw .nil pass0 (pa_cons (pv 0) (pa_cons pe_int pa_nil))) (fun _ _ => rfl)))
      (pss_cons (ps_set (i := 3) scMember.nd rfl (.inl rfl) (pe_slice sl_list (pe_lst (pa_cons pe_str (pa_cons pe_str (pa_cons pe_str pa_nil)))) po_none (po_some (pe_call G_law_draw (hr.mono (by omega)) (by rfl) L.g_law_draw L.f_law_draw.kp L.b_law_draw .nil pass0 (pa_cons (pv 0) (pa_cons pe_int pa_nil))))))
      (pss_one (ps_ret (pe_tup (pa_cons pe_int (pa_cons pe_str (pa_cons (pe_tup (pa_cons pe_str (pa_cons pe_int (pa_cons pe_str (pa_cons (pv 2) (pa_cons (pe_callTy call_tuple_of (by rfl) B.tuple (by decide +kernel) (pa_cons (pe_lc (own := [("name", 4)]) (g := gName 4) (tt := tYes) (by rfl) scMember.nd (pi_list (pv 3)) (blkOk_by (own := [("name", 4)]) (N := ["state", "deep", "parent", "names", "name"]) (sc := defScope sMember) (by decide +kernel)) (fun _ _ _ _ _ => pg_name (i := 4) scMember.nd rfl (.inl rfl)) (fun _ _ _ _ _ => pts_nil) (fun _ _ _ _ _ => (pe_tup (pa_cons (pv 4) (pa_cons (pe_call G_law_function (hr.mono (by omega)) (by rfl) L.g_law_function L.f_law_function.kp L.b_law_function .nil pass0 (pa_cons (pv 0) (pa_cons (pe_op op_sub (pv 1) pe_int) (pa_cons (pe_tup (pa_cons pe_str pa_nil)) pa_nil)))) pa_nil))))) pa_nil)) pa_nil)))))) pa_nil)))))))), ?_⟩
    refine ⟨_, rfl, p, a, m, 3, rfl, st, by decide, by omega, fun H1 i k1 st1 i0 i3 => ?_⟩
    refine ⟨_, _, rfl, rfl, _, rfl, ite2 (fun e => ?_) (fun e => ?_)⟩
    · refine ⟨_, rfl, _, rfl, _, _, rfl, rfl, Nat.zero_le _, fun y ny => ?_⟩
      refine ⟨p, y, a + 1, m, [], dm _, .inl (.inl upd_same), Nat.zero_le _, st1.lay ny, by omega, fun H2 v d at2 num2 k2 st2 b1 b2 hv hd => ?_⟩
      refine ⟨(by show 3 ≤ sizeLine; decide), fun z nz => ?_⟩
      exact q _ _ _ _ _ (((k1.lay ny).trans k2).lay nz) (st2.lay nz) (by omega) (by omega) (tp_new nz (.cons (.int _) (.cons (.str _) (.cons hv .nil)))) fun at_ => by
        obtain ⟨s, d', w⟩ := hd at_ (at_ + 4 + 1)
        exact ⟨_, _, .fn w⟩
    refine ⟨(by show 3 ≤ sizeLine; decide), fun y1 ny1 => ?_⟩
    refine ⟨(by show 2 ≤ sizeLine; decide), fun y2 ny2 => ?_⟩
    refine ⟨_, rfl, p, a + 1, m, 2, rfl, (st1.lay ny1).lay ny2, by decide, by omega, fun H2 i2 k2 st2 i20 i22 => ?_⟩
    have hy1 := k2 _ _ (same_upd (o := .lst [.non, .ref y1]) ny2 _ _ (upd_same (H := H1) (a := y1))) (st1.ne ny1)
    have hpar : ∃ (pb : Bool) (vp : V), atI [V.non, V.ref y1] i2 = some vp ∧ Tp K H2 vp (if pb = true then tup "name" [.int 0, .str "B"] else .none) := by
      have h : i2 = 0 ∨ i2 = 1 := by omega
      rcases h with rfl | rfl
      · exact ⟨false, .non, rfl, .non⟩
      · exact ⟨true, .ref y1, rfl, .tup (.inl (.inl hy1)) (.cons (.str _) (.cons (.int _) (.cons (.str _) .nil)))⟩
    obtain ⟨pb, vp, evp, hvp⟩ := hpar
    refine ⟨y2, _, _, _, rfl, rfl, SqL.of (k2 _ _ upd_same ((st1.lay ny1).ne ny2)), evp, ?_⟩
    refine ⟨(by show 3 ≤ sizeLine; decide), fun y3 ny3 => ?_⟩
    refine ⟨_, rfl, p, a + 1 + 1, m, 4, rfl, st2.lay ny3, by decide, by omega, fun H3 i3' k3 st3 i30 i34 => ?_⟩
    refine ⟨_, rfl, y3, _, rfl, SqL.of (k3 _ _ upd_same (st2.ne ny3)), fun z nz => ?_⟩
    have hcut : upd H3 z (.lst (cutV (lit ["init", "x", "size"]) none (some i3'))) = upd H3 z (.lst ((nm3.take i3'.toNat).map fun x => V.str (S x))) := by rw [cut_nm3 i30 i34]
    rw [show ([V.str "init", V.str "x", V.str "size"] : List V) = lit ["init", "x", "size"] from rfl, hcut]
    have kz : Keep p H (upd H3 z (.lst ((nm3.take i3'.toNat).map fun x => V.str (S x)))) := (((((k1.lay ny1).lay ny2).trans k2).lay ny3).trans k3).lay nz
    have stz : SD p (a + 1 + 1 + 1) m (upd H3 z (.lst ((nm3.take i3'.toNat).map fun x => V.str (S x)))) := st3.lay nz
    have hz : upd H3 z (.lst ((nm3.take i3'.toNat).map fun x => V.str (S x))) z = some (.lst ((nm3.take i3'.toNat).map fun x => V.str (S x))) := upd_same
    have hvz : Tp K (upd H3 z (.lst ((nm3.take i3'.toNat).map fun x => V.str (S x)))) vp (if pb = true then tup "name" [.int 0, .str "B"] else .none) := tp_same (same_upd nz) ((st2.lay ny3).tp k3 (tp_same (same_upd ny3) hvp))
    generalize upd H3 z (.lst ((nm3.take i3'.toNat).map fun x => V.str (S x))) = H4 at kz stz hz hvz
    have hnl : (nm3.take i3'.toNat).length ≤ 3 := by
      rw [List.length_take]
      exact Nat.min_le_right _ _
    have nzp : z ≠ p := fun e => by
      obtain ⟨r, rs, h1, _⟩ := stz
      rw [e, h1] at hz
      cases hz
    refine ⟨_, rfl, _, rfl, z, rfl, ⟨_, SqL.of hz⟩, fun Dl nD => lc_list (K := K) (a := z) (xs := (nm3.take i3'.toNat).map fun x => V.str (S x)) (fun jx H' => ∃ (xs : List V) (ds : List PyData) (at' num' : Int), H' Dl = some (.lst xs) ∧ xs.length = jx ∧ TpAll K H' xs ds ∧ Keep p H4 H' ∧ SD p at' num' H' ∧ a + 3 ≤ at' ∧ at' ≤ a + 3 + jx * (1 + cB j) ∧ (∀ at_, ∃ s ds', MtW (LV j).B (classHead pb) m ds num' at_ s ds')) ?_ ?_ ?_ ?_⟩
    · exact ⟨[], [], a + 1 + 1 + 1, m, upd_same, rfl, .nil, Same.keep (same_upd nD), stz.lay nD, by omega, by omega, fun at_ => ⟨_, _, .nil⟩⟩
    · rintro jx H' _ ⟨xs, ds, at', num', hD, hl, hx, k5, st5, a1, a2, hw⟩
      exact SqL.of (k5 _ _ hz nzp)
    · rintro jx vx H' hjx ⟨xs, ds, at', num', hD, hl, hx, k5, st5, a1, a2, hw⟩
      have hjl : jx < (nm3.take i3'.toNat).length := by
        have := (List.getElem?_eq_some_iff.mp hjx).1
        rw [List.length_map] at this
        exact this
      obtain ⟨x, hxm, rfl⟩ : ∃ x, x ∈ nm3 ∧ vx = .str (S x) := by
        rw [List.getElem?_map, List.getElem?_eq_getElem hjl] at hjx
        exact ⟨_, List.mem_of_mem_take (List.getElem_mem hjl), (Option.some.inj hjx).symm⟩
      have hc3 : a + 3 + (jx : Int) * (1 + cB j) + (1 + cB j) ≤ BIG ∧ ((jx + 1 : Nat) : Int) * (1 + cB j) = (jx : Int) * (1 + cB j) + (1 + cB j) := by
        have h : jx = 0 ∨ jx = 1 ∨ jx = 2 := by omega
        rcases h with rfl | rfl | rfl <;> exact ⟨by omega, by omega⟩
      refine ⟨rfl, _, rfl, _, rfl, _, rfl, _, _, rfl, rfl, (by show 1 ≤ sizeLine; decide), fun u nu => ?_⟩
      refine ⟨p, u, at', num', [cs "this"], dm _, by rw [← this1]; exact .inl (.inl upd_same), by decide, st5.lay nu, by omega, fun H6 v d at6 num6 k6 st6 b1 b2 hv hd => ?_⟩
      refine ⟨(by show 2 ≤ sizeLine; decide), fun w nw => ?_⟩
      have nDp : Dl ≠ p := stz.ne nD
      have hD6 := same_upd (o := .tup [.str (S x), v]) nw _ _ (k6 _ _ (same_upd (o := .tup [.str "this"]) nu _ _ hD) nDp)
      refine ⟨xs, hD6, (by rw [sizeLine_eq]; omega), xs ++ [.ref w], ds ++ [.tuple [.str (S x), d]], at6, num6, upd_same, by rw [List.length_append, hl]; rfl, ?_, fun b o e n => ?_, (st6.lay nw).short hD6 (by omega), by omega, by omega, fun at_ => ?_⟩
      · exact tpa_lst hD6 (tpa_snoc (tpa_same (same_upd nw) ((st5.lay nu).tpa k6 (tpa_same (same_upd nu) hx))) (tp_new nw (.cons (.str _) (.cons hv .nil))))
      · rw [upd_ne (fun z => by rw [z, nD] at e; cases e)]
        exact same_upd nw _ _ (k6 _ _ (same_upd nu _ _ (k5 _ _ e n)) n)
      · obtain ⟨s1, ds', w1⟩ := hw at_
        obtain ⟨t, d', w2⟩ := hd (at_ + len s1) (at_ + len s1 + len x)
        exact ⟨_, _, .snoc hxm w1 w2⟩
    rintro H' ⟨xs, ds, at', num', hD, hl, hx, k5, st5, a1, a2, hw⟩
    refine ⟨Dl, xs, rfl, .inl ⟨SqL.of hD, fun y ny => ⟨(by show 5 ≤ sizeLine; decide), fun w nw => ⟨(by show 3 ≤ sizeLine; decide), fun w2 nw2 => ?_⟩⟩⟩⟩
    have hl3 : ds.length ≤ 3 := by
      rw [← tpa_len hx, hl, List.length_map]
      exact hnl
    refine q _ _ _ at' num' ((((kz.trans k5).lay ny).lay nw).lay nw2) (((st5.lay ny).lay nw).lay nw2) (by omega) ?_ (tp_new nw2 (.cons (.int _) (.cons (.str _) (.cons (tp_new nw (.cons (.str _) (.cons (.int _) (.cons (.str _) (.cons (tp_same (same_upd ny) (stz.tp k5 hvz)) (.cons (tp_new ny hx) .nil)))))) .nil)))) fun at_ => ?_
    · rw [List.length_map] at a2
      generalize (nm3.take i3'.toNat).length = L3 at a2 hnl
      have h : L3 = 0 ∨ L3 = 1 ∨ L3 = 2 ∨ L3 = 3 := by omega
      rcases h with rfl | rfl | rfl | rfl <;> omega
    · obtain ⟨s, ds', w⟩ := hw at_
      exact ⟨_, _, .cls hl3 w⟩
end
end My
namespace My
open PySem L2 SX
open C8 (pss_cut tCut cutS_slice pe_gc)
/-! ### what drawn terms are like: their depth, the length of their texts -/
def Gd (N : Nat) (d : D) : Prop := d.canLay0 = true ∧ d.depth ≤ N
def GdA (N : Nat) (ds : List D) : Prop := PyData.canLayAll0 ds = true ∧ PyData.depthAll ds ≤ N
theorem gi {N : Nat} (i : Int) : Gd N (.int i) := ⟨rfl, Nat.zero_le _⟩
theorem gs {N : Nat} {x : Str} (h : PyData.strOk x = true) : Gd N (.str x) := ⟨h, Nat.zero_le _⟩
theorem gn {N : Nat} : Gd N .none := ⟨rfl, Nat.zero_le _⟩
theorem gb {N : Nat} (b : Bool) : Gd N (.bool b) := ⟨rfl, Nat.zero_le _⟩
theorem gdn {N : Nat} : GdA N [] := ⟨rfl, Nat.zero_le _⟩
theorem gdc {N : Nat} {d : D} {ds : List D} (h : Gd N d) (hs : GdA N ds) : GdA N (d :: ds) := ⟨by show (d.canLay0 && PyData.canLayAll0 ds) = true; rw [h.1, hs.1]; rfl, Nat.max_le.mpr ⟨h.2, hs.2⟩⟩
theorem gdl {N : Nat} {ds : List D} (h : GdA N ds) : Gd (N + 1) (.tuple ds) := ⟨h.1, Nat.succ_le_succ h.2⟩
theorem gt {N : Nat} {k : Str} {fs : List D} (hk : PyData.strOk k = true) (h : GdA N fs) : Gd (N + 1) (tup k fs) := gdl (gdc (gs hk) h)
theorem Gd.up {N M : Nat} {d : D} (h : Gd N d) (l : N ≤ M) : Gd M d := ⟨h.1, Nat.le_trans h.2 l⟩
theorem GdA.up {N M : Nat} {d : List D} (h : GdA N d) (l : N ≤ M) : GdA M d := ⟨h.1, Nat.le_trans h.2 l⟩
theorem gda_app {N : Nat} : ∀ {ds es : List D}, GdA N ds → GdA N es → GdA N (ds ++ es)
  | [], _, _, h => h
  | d :: ds, es, h, h2 => by
    have h1 : d.canLay0 = true ∧ PyData.canLayAll0 ds = true := by
      have := h.1
      exact Bool.and_eq_true_iff.mp this
    have h3 := Nat.max_le.mp h.2
    exact gdc ⟨h1.1, h3.1⟩ (gda_app ⟨h1.2, h3.2⟩ h2)
structure RG (R : Rl) (N M : Nat) : Prop where
  ok : ∀ {a d b at_ s d'}, R a d b at_ s d' → Gd N d ∧ Gd N d' ∧ s.length ≤ M
theorem RG.up {R : Rl} {N M N' M' : Nat} (h : RG R N M) (l : N ≤ N') (m : M ≤ M') : RG R N' M' := .mk fun w => by
  obtain ⟨h1, h2, h3⟩ := h.ok w
  exact ⟨h1.up l, h2.up l, by omega⟩
theorem nm_ok : ∀ x ∈ names6, PyData.strOk (S x) = true ∧ x.length ≤ 5 := by decide +kernel
theorem tx_ok : ∀ x ∈ texts7, PyData.strOk (S x) = true ∧ (escT x).length ≤ 5 := by decide +kernel
theorem un_ok : ∀ x ∈ [cs "-", cs "not"], PyData.strOk (S x) = true ∧ x.length ≤ 5 := by decide +kernel
theorem sg_ok : ∀ x ∈ signs12, PyData.strOk (S x) = true ∧ x.length ≤ 5 := by decide +kernel
theorem ab_ok : ∀ x ∈ [cs "a", cs "b", cs "x1"], PyData.strOk (S x) = true ∧ x.length ≤ 5 := by decide +kernel
theorem abv_ok : ∀ x ∈ [cs "a", cs "b", cs "v2"], PyData.strOk (S x) = true ∧ x.length ≤ 5 := by decide +kernel
theorem xs_ok : ∀ x ∈ [cs "x", cs "size"], PyData.strOk (S x) = true ∧ x.length ≤ 5 := by decide +kernel
theorem px_ok : ∀ x ∈ [cs "push", cs "x"], PyData.strOk (S x) = true ∧ x.length ≤ 5 := by decide +kernel
theorem mt_ok : ∀ x ∈ [cs "init", cs "x", cs "size"], PyData.strOk (S x) = true ∧ x.length ≤ 5 := by decide +kernel
theorem dec_len {i : Int} (h0 : 0 ≤ i) (h1 : i < 1000000000000) : (decC i).length ≤ 13 := by
  have h : (toString i).length ≤ 12 + 1 := PySem.int_text_length_le10 (by decide) (by
    have : (10 : Nat) ^ 12 = 1000000000000 := by decide
    omega)
  unfold decC
  rw [Array.length_toList]
  exact Nat.le_trans (Nat.le_of_eq (ofString_length _)) h
theorem leaf_ok {d : D} {at_ : Int} {s : List Nat} {d' : D} (w : LeafW d at_ s d') : Gd 1 d ∧ Gd 1 d' ∧ s.length ≤ 13 := by
  cases w with
  | name hx =>
    obtain ⟨h1, h2⟩ := nm_ok _ hx
    exact ⟨gt (by decide +kernel) (gdc (gi _) (gdc (gs h1) gdn)), gt (by decide +kernel) (gdc (gi _) (gdc (gs h1) gdn)), by omega⟩
  | int h0 h1 => exact ⟨gt (by decide +kernel) (gdc (gi _) gdn), gt (by decide +kernel) (gdc (gi _) gdn), dec_len h0 h1⟩
  | text hx =>
    obtain ⟨h1, h2⟩ := tx_ok _ hx
    refine ⟨gt (by decide +kernel) (gdc (gs h1) gdn), gt (by decide +kernel) (gdc (gs h1) gdn), ?_⟩
    simp only [List.length_cons, List.length_append, List.length_nil]
    omega
  | null => exact ⟨gt (by decide +kernel) gdn, gt (by decide +kernel) gdn, by decide⟩
  | @bool b => exact ⟨gt (by decide +kernel) (gdc (gb _) gdn), gt (by decide +kernel) (gdc (gb _) gdn), by cases b <;> decide⟩
theorem rg_inn {E : Rl} {N M : Nat} (h : RG E N M) : RG (InnW E) N (M + 2) := .mk fun w => by
  rcases w with ⟨_, w⟩ | ⟨_, t, rfl, w⟩
  · obtain ⟨h1, h2, h3⟩ := h.ok w
    exact ⟨h1, h2, by omega⟩
  · obtain ⟨h1, h2, h3⟩ := h.ok w
    refine ⟨h1, h2, ?_⟩
    simp only [List.length_cons, List.length_append, List.length_nil]
    omega
theorem lw_ok {E : Rl} {N M : Nat} (h : RG E N M) {sep : List Nat} {a ds b at_ s ds'} (w : LW E sep a ds b at_ s ds') : GdA N ds ∧ GdA N ds' ∧ s.length ≤ ds.length * (M + sep.length) ∧ ds.length = ds'.length := by
  induction w with
  | nil => exact ⟨gdn, gdn, by simp, rfl⟩
  | snoc _ hs e ih =>
    obtain ⟨h1, h2, h3⟩ := h.ok e
    obtain ⟨i1, i2, i3, i4⟩ := ih
    refine ⟨gda_app i1 (gdc h1 gdn), gda_app i2 (gdc h2 gdn), ?_, by simp [i4]⟩
    rename_i sp _
    have hl : sp.length ≤ sep.length := by
      rw [hs]
      split <;> simp
    simp only [List.length_append, List.length_cons, List.length_nil, Nat.add_mul]
    omega
theorem iw_ok {E : Rl} {N M : Nat} (h : RG E N M) {suf : List Nat} {a ds b at_ s ds'} (w : IW E suf a ds b at_ s ds') : GdA N ds ∧ GdA N ds' ∧ s.length ≤ ds.length * (M + suf.length) ∧ ds.length = ds'.length := by
  induction w with
  | nil => exact ⟨gdn, gdn, by simp, rfl⟩
  | snoc _ e ih =>
    obtain ⟨h1, h2, h3⟩ := h.ok e
    obtain ⟨i1, i2, i3, i4⟩ := ih
    refine ⟨gda_app i1 (gdc h1 gdn), gda_app i2 (gdc h2 gdn), ?_, by simp [i4]⟩
    simp only [List.length_append, List.length_cons, List.length_nil, Nat.add_mul]
    omega
theorem pw_ok {E : Rl} {N M : Nat} (h : RG E N M) {a ds b at_ s ds'} (w : PW2 E a ds b at_ s ds') : GdA (N + 1) ds ∧ GdA (N + 1) ds' ∧ s.length ≤ 1 + ds.length * (2 * M + 2) ∧ ds.length = ds'.length := by
  induction w with
  | nil => exact ⟨gdn, gdn, by simp, rfl⟩
  | @snoc ds b at_ s ds' k c t k' v e u v' sp _ hs e1 e2 ih =>
    obtain ⟨h1, h2, h3⟩ := h.ok e1
    obtain ⟨g1, g2, g3⟩ := h.ok e2
    obtain ⟨i1, i2, i3, i4⟩ := ih
    refine ⟨gda_app i1 (gdc (gdl (gdc h1 (gdc g1 gdn))) gdn), gda_app i2 (gdc (gdl (gdc h2 (gdc g2 gdn))) gdn), ?_, by simp [i4]⟩
    have hl : sp.length ≤ 1 := by
      rw [hs]
      split <;> simp
    simp only [List.length_append, List.length_cons, List.length_nil, Nat.add_mul]
    omega
theorem strs_ok : ∀ j, j ≤ 3 → GdA 0 ((abcd.take j).map fun x => PyData.str (S x)) ∧ GdA 0 (([cs "this"] ++ abcd.take j).map fun x => PyData.str (S x)) ∧ (headN (abcd.take j)).length ≤ 7 := by
  intro j hj
  have h : j = 0 ∨ j = 1 ∨ j = 2 ∨ j = 3 := by omega
  rcases h with rfl | rfl | rfl | rfl <;> (refine ⟨⟨?_, ?_⟩, ⟨?_, ?_⟩, ?_⟩ <;> decide +kernel)
theorem fun_ok {B : Rl} {N M : Nat} (h : RG B N M) {pre : List (List Nat)} (hp : pre = [] ∨ pre = [cs "this"]) {off : Int} : RG (FunW B pre [] off) (N + 2) (M + 7) := .mk fun w => by
  cases w with
  | @mk a body b at_ s body' j hj w =>
    obtain ⟨h1, h2, h3⟩ := h.ok w
    obtain ⟨p1, p2, p3⟩ := strs_ok j hj
    have pp : GdA 0 ((pre ++ abcd.take j).map fun x => PyData.str (S x)) := by
      rcases hp with rfl | rfl
      · exact p1
      · exact p2
    have ps : Gd (N + 1) (strsD (pre ++ abcd.take j)) := (gdl pp).up (by omega)
    refine ⟨gt (by decide +kernel) (gdc (gi _) (gdc (gi _) (gdc ps (gdc (h1.up (by omega)) gdn)))), gt (by decide +kernel) (gdc (gi _) (gdc (gi _) (gdc ps (gdc (h2.up (by omega)) gdn)))), ?_⟩
    simp only [List.length_append, List.nil_append]
    omega
theorem ex_ok {E B : Rl} {N e bb : Nat} (hE : RG E N e) (hB : RG B N bb) : RG (ExF E B) (N + 3) (4 * e + bb + 30) := .mk fun w => by
  have hI := rg_inn hE
  have l1 : (cs "and").length = 3 := by decide
  have l2 : (cs "or").length = 2 := by decide
  have l3 : (cs " ,").length = 2 := by decide
  have l4 : (cs "super.x").length = 7 := by decide
  have l5 : (cs "fun").length = 3 := by decide
  have l6 : (cs "x").length = 1 := by decide
  have okx : PyData.strOk (S (cs "x")) = true := by decide +kernel
  cases w with
  | leaf w =>
    obtain ⟨h1, h2, h3⟩ := leaf_ok w
    exact ⟨h1.up (by omega), h2.up (by omega), by omega⟩
  | unary hx w =>
    obtain ⟨x1, x2⟩ := un_ok _ hx
    obtain ⟨h1, h2, h3⟩ := hI.ok w
    refine ⟨(gt (by decide +kernel) (gdc (gi _) (gdc (gs x1) (gdc h1 gdn)))).up (by omega), (gt (by decide +kernel) (gdc (gi _) (gdc (gs x1) (gdc h2 gdn)))).up (by omega), ?_⟩
    simp only [List.length_append, List.length_cons, List.length_nil]
    omega
  | binary hx w v =>
    obtain ⟨x1, x2⟩ := sg_ok _ hx
    obtain ⟨h1, h2, h3⟩ := hI.ok w
    obtain ⟨g1, g2, g3⟩ := hI.ok v
    refine ⟨(gt (by decide +kernel) (gdc (gi _) (gdc (gs x1) (gdc h1 (gdc g1 gdn))))).up (by omega), (gt (by decide +kernel) (gdc (gi _) (gdc (gs x1) (gdc h2 (gdc g2 gdn))))).up (by omega), ?_⟩
    simp only [List.length_append, List.length_cons, List.length_nil]
    omega
  | both w v =>
    obtain ⟨h1, h2, h3⟩ := hI.ok w
    obtain ⟨g1, g2, g3⟩ := hI.ok v
    refine ⟨(gt (by decide +kernel) (gdc h1 (gdc g1 gdn))).up (by omega), (gt (by decide +kernel) (gdc h2 (gdc g2 gdn))).up (by omega), ?_⟩
    simp only [List.length_append, List.length_cons, List.length_nil]
    omega
  | either w v =>
    obtain ⟨h1, h2, h3⟩ := hI.ok w
    obtain ⟨g1, g2, g3⟩ := hI.ok v
    refine ⟨(gt (by decide +kernel) (gdc h1 (gdc g1 gdn))).up (by omega), (gt (by decide +kernel) (gdc h2 (gdc g2 gdn))).up (by omega), ?_⟩
    simp only [List.length_append, List.length_cons, List.length_nil]
    omega
  | @list a es b at_ s es' hl w =>
    obtain ⟨h1, h2, h3, _⟩ := lw_ok hE w
    have h3' : s.length ≤ 3 * (e + (cs " ,").length) := Nat.le_trans h3 (Nat.mul_le_mul_right _ hl)
    refine ⟨(gt (by decide +kernel) (gdc (gdl h1) gdn)).up (by omega), (gt (by decide +kernel) (gdc (gdl h2) gdn)).up (by omega), ?_⟩
    simp only [List.length_append, List.length_cons, List.length_nil]
    omega
  | @map a ps b at_ s ps' hl w =>
    obtain ⟨h1, h2, h3, _⟩ := pw_ok hE w
    have h3' : s.length ≤ 1 + 2 * (2 * e + 2) := Nat.le_trans h3 (Nat.add_le_add_left (Nat.mul_le_mul_right _ hl) _)
    refine ⟨(gt (by decide +kernel) (gdc (gi _) (gdc (gdl h1) gdn))).up (by omega), (gt (by decide +kernel) (gdc (gi _) (gdc (gdl h2) gdn))).up (by omega), ?_⟩
    simp only [List.length_append, List.length_cons, List.length_nil]
    omega
  | @super a es b at_ s es' hl w =>
    obtain ⟨h1, h2, h3, _⟩ := lw_ok hE w
    have h3' : s.length ≤ 2 * (e + (cs " ,").length) := Nat.le_trans h3 (Nat.mul_le_mul_right _ hl)
    refine ⟨(gt (by decide +kernel) (gdc (gi _) (gdc (gs (by decide +kernel)) (gdc (gdl h1) gdn)))).up (by omega), (gt (by decide +kernel) (gdc (gi _) (gdc (gs (by decide +kernel)) (gdc (gdl h2) gdn)))).up (by omega), ?_⟩
    simp only [List.length_append, List.length_cons, List.length_nil]
    omega
  | fn w =>
    obtain ⟨h1, h2, h3⟩ := (fun_ok hB (.inl rfl)).ok w
    refine ⟨h1.up (by omega), h2.up (by omega), ?_⟩
    simp only [List.length_append]
    omega
  | assign hx w =>
    obtain ⟨x1, x2⟩ := ab_ok _ hx
    obtain ⟨h1, h2, h3⟩ := hE.ok w
    refine ⟨(gt (by decide +kernel) (gdc (gi _) (gdc (gs x1) (gdc h1 gdn)))).up (by omega), (gt (by decide +kernel) (gdc (gi _) (gdc (gs x1) (gdc h2 gdn)))).up (by omega), ?_⟩
    simp only [List.length_append, List.length_cons, List.length_nil]
    omega
  | @call a l b es c at_ s1 l' s2 es' hl w v =>
    obtain ⟨h1, h2, h3⟩ := hI.ok w
    obtain ⟨g1, g2, g3, _⟩ := lw_ok hE v
    have g3' : s2.length ≤ 2 * (e + (cs " ,").length) := Nat.le_trans g3 (Nat.mul_le_mul_right _ hl)
    refine ⟨(gt (by decide +kernel) (gdc (gi _) (gdc (h1.up (by omega)) (gdc (gdl g1) gdn)))).up (by omega), (gt (by decide +kernel) (gdc (gi _) (gdc (h2.up (by omega)) (gdc (gdl g2) gdn)))).up (by omega), ?_⟩
    simp only [List.length_append, List.length_cons, List.length_nil]
    omega
  | index w v =>
    obtain ⟨h1, h2, h3⟩ := hI.ok w
    obtain ⟨g1, g2, g3⟩ := hE.ok v
    refine ⟨(gt (by decide +kernel) (gdc (gi _) (gdc h1 (gdc g1 gdn)))).up (by omega), (gt (by decide +kernel) (gdc (gi _) (gdc h2 (gdc g2 gdn)))).up (by omega), ?_⟩
    simp only [List.length_append, List.length_cons, List.length_nil]
    omega
  | setIndex w v u =>
    obtain ⟨h1, h2, h3⟩ := hI.ok w
    obtain ⟨g1, g2, g3⟩ := hE.ok v
    obtain ⟨k1, k2, k3⟩ := hE.ok u
    refine ⟨(gt (by decide +kernel) (gdc (gi _) (gdc h1 (gdc g1 (gdc k1 gdn))))).up (by omega), (gt (by decide +kernel) (gdc (gi _) (gdc h2 (gdc g2 (gdc k2 gdn))))).up (by omega), ?_⟩
    simp only [List.length_append, List.length_cons, List.length_nil]
    omega
  | field hx w =>
    obtain ⟨x1, x2⟩ := xs_ok _ hx
    obtain ⟨h1, h2, h3⟩ := hI.ok w
    refine ⟨(gt (by decide +kernel) (gdc (gi _) (gdc h1 (gdc (gs x1) gdn)))).up (by omega), (gt (by decide +kernel) (gdc (gi _) (gdc h2 (gdc (gs x1) gdn)))).up (by omega), ?_⟩
    simp only [List.length_append, List.length_cons, List.length_nil]
    omega
  | @invoke a l b es c at_ s1 l' s2 es' x hx hl w v =>
    obtain ⟨x1, x2⟩ := px_ok _ hx
    obtain ⟨h1, h2, h3⟩ := hI.ok w
    obtain ⟨g1, g2, g3, _⟩ := lw_ok hE v
    have g3' : s2.length ≤ 2 * (e + (cs " ,").length) := Nat.le_trans g3 (Nat.mul_le_mul_right _ hl)
    refine ⟨(gt (by decide +kernel) (gdc (gi _) (gdc (h1.up (by omega)) (gdc (gs x1) (gdc (gdl g1) gdn))))).up (by omega), (gt (by decide +kernel) (gdc (gi _) (gdc (h2.up (by omega)) (gdc (gs x1) (gdc (gdl g2) gdn))))).up (by omega), ?_⟩
    simp only [List.length_append, List.length_cons, List.length_nil]
    omega
  | setField w v =>
    obtain ⟨h1, h2, h3⟩ := hI.ok w
    obtain ⟨g1, g2, g3⟩ := hE.ok v
    refine ⟨(gt (by decide +kernel) (gdc (gi _) (gdc h1 (gdc (gs okx) (gdc g1 gdn))))).up (by omega), (gt (by decide +kernel) (gdc (gi _) (gdc h2 (gdc (gs okx) (gdc g2 gdn))))).up (by omega), ?_⟩
    simp only [List.length_append, List.length_cons, List.length_nil]
    omega
theorem st_ok {E0 E St B : Rl} {N e0 e ss bb : Nat} (h0 : RG E0 (N + 1) e0) (hE : RG E (N + 1) e) (hS : RG St (N + 1) ss) (hB : RG B (N + 1) bb) : RG (StF E0 E St B) (N + 2) (e0 + e + 2 * ss + 2 * bb + 30) := .mk fun w => by
  have l1 : (cs ");").length = 2 := by decide
  have l2 : (cs "return").length = 6 := by decide
  have l3 : (cs "throw").length = 5 := by decide
  have l4 : (cs "try").length = 3 := by decide
  have l5 : (cs "catch(").length = 6 := by decide
  have l6 : (cs "e").length = 1 := by decide
  have l7 : (cs "while(").length = 6 := by decide
  have l8 : (cs "for(e in ").length = 9 := by decide
  have l9 : (cs "if(").length = 3 := by decide
  have l10 : (cs " else ").length = 6 := by decide
  have l11 : (cs "{}").length = 2 := by decide
  have oe : PyData.strOk "e" = true := by decide +kernel
  cases w with
  | do_ w =>
    obtain ⟨h1, h2, h3⟩ := h0.ok w
    refine ⟨gt (by decide +kernel) (gdc h1 gdn), gt (by decide +kernel) (gdc h2 gdn), ?_⟩
    simp only [List.length_append, List.length_cons, List.length_nil]
    omega
  | block w =>
    obtain ⟨h1, h2, h3⟩ := hB.ok w
    exact ⟨h1.up (by omega), h2.up (by omega), by omega⟩
  | brk => exact ⟨gt (by decide +kernel) (gdc (gi _) gdn), gt (by decide +kernel) (gdc (gi _) gdn), Nat.le_trans (show _ ≤ 6 by decide) (by omega)⟩
  | cont => exact ⟨gt (by decide +kernel) (gdc (gi _) gdn), gt (by decide +kernel) (gdc (gi _) gdn), Nat.le_trans (show _ ≤ 9 by decide) (by omega)⟩
  | ret0 =>
    have hn : Gd (N + 1) (tup "null" []) := gt (by decide +kernel) gdn
    exact ⟨gt (by decide +kernel) (gdc (gi _) (gdc hn gdn)), gt (by decide +kernel) (gdc (gi _) (gdc hn gdn)), Nat.le_trans (show _ ≤ 12 by decide) (by omega)⟩
  | ret w =>
    obtain ⟨h1, h2, h3⟩ := hE.ok w
    refine ⟨gt (by decide +kernel) (gdc (gi _) (gdc h1 gdn)), gt (by decide +kernel) (gdc (gi _) (gdc h2 gdn)), ?_⟩
    simp only [List.length_append, List.length_cons, List.length_nil]
    omega
  | throw w =>
    obtain ⟨h1, h2, h3⟩ := hE.ok w
    refine ⟨gt (by decide +kernel) (gdc (gi _) (gdc h1 gdn)), gt (by decide +kernel) (gdc (gi _) (gdc h2 gdn)), ?_⟩
    simp only [List.length_append, List.length_cons, List.length_nil]
    omega
  | try_ w v =>
    obtain ⟨h1, h2, h3⟩ := hB.ok w
    obtain ⟨g1, g2, g3⟩ := hB.ok v
    refine ⟨gt (by decide +kernel) (gdc (gi _) (gdc h1 (gdc (gi _) (gdc (gs oe) (gdc g1 gdn))))), gt (by decide +kernel) (gdc (gi _) (gdc h2 (gdc (gi _) (gdc (gs oe) (gdc g2 gdn))))), ?_⟩
    simp only [List.length_append, List.length_cons, List.length_nil]
    omega
  | while_ w v =>
    obtain ⟨h1, h2, h3⟩ := hE.ok w
    obtain ⟨g1, g2, g3⟩ := hS.ok v
    refine ⟨gt (by decide +kernel) (gdc (gi _) (gdc h1 (gdc g1 gdn))), gt (by decide +kernel) (gdc (gi _) (gdc h2 (gdc g2 gdn))), ?_⟩
    simp only [List.length_append, List.length_cons, List.length_nil]
    omega
  | for_ w v =>
    obtain ⟨h1, h2, h3⟩ := hE.ok w
    obtain ⟨g1, g2, g3⟩ := hS.ok v
    refine ⟨gt (by decide +kernel) (gdc (gi _) (gdc (gi _) (gdc (gs oe) (gdc h1 (gdc g1 gdn))))), gt (by decide +kernel) (gdc (gi _) (gdc (gi _) (gdc (gs oe) (gdc h2 (gdc g2 gdn))))), ?_⟩
    simp only [List.length_append, List.length_cons, List.length_nil]
    omega
  | if1 w v =>
    obtain ⟨h1, h2, h3⟩ := hE.ok w
    obtain ⟨g1, g2, g3⟩ := hS.ok v
    refine ⟨gt (by decide +kernel) (gdc (gi _) (gdc h1 (gdc g1 (gdc gn gdn)))), gt (by decide +kernel) (gdc (gi _) (gdc h2 (gdc g2 (gdc gn gdn)))), ?_⟩
    simp only [List.length_append, List.length_cons, List.length_nil]
    omega
  | if2 w v _ u =>
    obtain ⟨h1, h2, h3⟩ := hE.ok w
    obtain ⟨g1, g2, g3⟩ := hS.ok v
    obtain ⟨k1, k2, k3⟩ := hS.ok u
    refine ⟨gt (by decide +kernel) (gdc (gi _) (gdc h1 (gdc g1 (gdc k1 gdn)))), gt (by decide +kernel) (gdc (gi _) (gdc h2 (gdc g2 (gdc k2 gdn)))), ?_⟩
    simp only [List.length_append, List.length_cons, List.length_nil]
    omega
theorem mt_ok' {B : Rl} {N M : Nat} (h : RG B N M) {pre : List Nat} {a ds b at_ s ds'} (w : MtW B pre a ds b at_ s ds') : GdA (N + 3) ds ∧ GdA (N + 3) ds' ∧ s.length ≤ pre.length + ds.length * (M + 12) ∧ ds.length = ds'.length := by
  induction w with
  | nil => exact ⟨gdn, gdn, by simp, rfl⟩
  | snoc hx _ e ih =>
    obtain ⟨x1, x2⟩ := mt_ok _ hx
    obtain ⟨h1, h2, h3⟩ := (fun_ok h (.inr rfl)).ok e
    obtain ⟨i1, i2, i3, i4⟩ := ih
    refine ⟨gda_app i1 (gdc (gdl (gdc (gs x1) (gdc h1 gdn))) gdn), gda_app i2 (gdc (gdl (gdc (gs x1) (gdc h2 gdn))) gdn), ?_, by simp [i4]⟩
    simp only [List.length_append, List.length_cons, List.length_nil, Nat.add_mul]
    omega
theorem mem_ok {B : Rl} {N M : Nat} (h : RG B N M) : RG (MemF B) (N + 6) (60 + 3 * M) := .mk fun w => by
  have l1 : (cs "fun f").length = 5 := by decide
  have oA : PyData.strOk "A" = true := by decide +kernel
  have hch : ∀ p, (classHead p).length ≤ 20 := by decide
  have hn : ∀ (p : Bool) (o : Int), Gd (N + 4) (if p = true then tup "name" [.int o, .str "B"] else .none) := fun p o => by
    cases p
    · exact gn
    · exact (gt (N := 0) (by decide +kernel) (gdc (gi _) (gdc (gs (by decide +kernel)) gdn))).up (by omega)
  cases w with
  | fn w =>
    obtain ⟨h1, h2, h3⟩ := (fun_ok h (.inl rfl)).ok w
    refine ⟨(gdl (gdc (gi _) (gdc (gs (by decide +kernel)) (gdc h1 gdn)))).up (by omega), (gdl (gdc (gi _) (gdc (gs (by decide +kernel)) (gdc h2 gdn)))).up (by omega), ?_⟩
    simp only [List.length_append]
    omega
  | @cls a ms b at_ s ms' p hl w =>
    obtain ⟨h1, h2, h3, _⟩ := mt_ok' h w
    have h3' : s.length ≤ 20 + 3 * (M + 12) := Nat.le_trans h3 (Nat.add_le_add (hch p) (Nat.mul_le_mul_right _ hl))
    refine ⟨gdl (gdc (gi _) (gdc (gs oA) (gdc (gt (by decide +kernel) (gdc (gi _) (gdc (gs oA) (gdc (hn p _) (gdc (gdl h1) gdn))))) gdn))), gdl (gdc (gi _) (gdc (gs oA) (gdc (gt (by decide +kernel) (gdc (gi _) (gdc (gs oA) (gdc (hn p _) (gdc (gdl h2) gdn))))) gdn))), ?_⟩
    simp only [List.length_append, List.length_cons, List.length_nil]
    omega
theorem it_ok {E St B : Rl} {N e ss bb : Nat} (hE : RG E N e) (hS : RG St N ss) (hB : RG B N bb) : RG (ItF E St B) (N + 8) (ss + e + 6 * bb + 130) := .mk fun w => by
  have l1 : (cs "let ").length = 4 := by decide
  cases w with
  | let_ hx w =>
    obtain ⟨x1, x2⟩ := abv_ok _ hx
    obtain ⟨h1, h2, h3⟩ := hE.ok w
    refine ⟨(gt (by decide +kernel) (gdc (gi _) (gdc (gs x1) (gdc h1 gdn)))).up (by omega), (gt (by decide +kernel) (gdc (gi _) (gdc (gs x1) (gdc h2 gdn)))).up (by omega), ?_⟩
    simp only [List.length_append, List.length_cons, List.length_nil]
    omega
  | group _ hl w =>
    obtain ⟨h1, h2, h3, _⟩ := iw_ok (mem_ok hB) w
    have h3' : _ ≤ 2 * (60 + 3 * bb + [32].length) := Nat.le_trans h3 (Nat.mul_le_mul_right _ hl)
    refine ⟨(gt (by decide +kernel) (gdc (gdl h1) gdn)).up (by omega), (gt (by decide +kernel) (gdc (gdl h2) gdn)).up (by omega), ?_⟩
    simp only [List.length_cons, List.length_nil] at h3'
    omega
  | st w =>
    obtain ⟨h1, h2, h3⟩ := hS.ok w
    exact ⟨h1.up (by omega), h2.up (by omega), by omega⟩
theorem bl_ok {It : Rl} {N M : Nat} (h : RG It N M) : RG (BlF It) (N + 2) (5 + 3 * M) := .mk fun w => by
  cases w with
  | mk hl _ w =>
    obtain ⟨h1, h2, h3, _⟩ := iw_ok h w
    have h3' := Nat.le_trans h3 (Nat.mul_le_mul_right _ hl)
    refine ⟨gt (by decide +kernel) (gdc (gdl h1) gdn), gt (by decide +kernel) (gdc (gdl h2) gdn), ?_⟩
    simp only [List.length_append, List.length_cons, List.length_nil] at h3' ⊢
    omega
theorem no_ok {N M : Nat} : RG noR N M := .mk fun w => w.elim
theorem leafR_ok : RG leafR 1 13 := .mk fun w => leaf_ok w.2
/-- depth by level, and length for the three kinds of terms -/
def capN (n : Nat) : Nat := 4 + 16 * n
def lc : Nat → Nat × Nat × Nat
  | 0 => (13, 50, 5)
  | n + 1 =>
    let t := lc n
    let e := 4 * t.1 + t.2.2 + 30
    let s := e + t.1 + 2 * t.2.1 + 2 * t.2.2 + 30
    (e, s, 5 + 3 * (s + t.1 + 6 * t.2.2 + 130))
def lE (n : Nat) : Nat := (lc n).1
def lS (n : Nat) : Nat := (lc n).2.1
def lB (n : Nat) : Nat := (lc n).2.2
theorem lv_ok : ∀ n, RG (LV n).E (capN n) (lE n) ∧ RG (LV n).S (capN n) (lS n) ∧ RG (LV n).B (capN n) (lB n)
  | 0 => ⟨leafR_ok.up (by decide) (by decide), (st_ok (N := 0) (e := 0) (ss := 0) (bb := 0) leafR_ok no_ok no_ok no_ok).up (by decide) (by decide), (bl_ok (no_ok (N := 0) (M := 0))).up (by decide) (by decide)⟩
  | n + 1 => by
    obtain ⟨hE, hS, hB⟩ := lv_ok n
    have e1 : capN (n + 1) = capN n + 16 := by unfold capN; omega
    have m1 : lE (n + 1) = 4 * lE n + lB n + 30 := rfl
    have m2 : lS (n + 1) = lE (n + 1) + lE n + 2 * lS n + 2 * lB n + 30 := rfl
    have m3 : lB (n + 1) = 5 + 3 * (lS (n + 1) + lE n + 6 * lB n + 130) := rfl
    have E1 : RG (LV (n + 1)).E (capN n + 3) (lE (n + 1)) := ex_ok hE hB
    have S1 : RG (LV (n + 1)).S (capN n + 2 + 2) (lS (n + 1)) := st_ok E1 (hE.up (by omega) (Nat.le_refl _)) (hS.up (by omega) (Nat.le_refl _)) (hB.up (by omega) (Nat.le_refl _))
    have I1 : RG (ItF (LV n).E (LV (n + 1)).S (LV n).B) (capN n + 4 + 8) (lS (n + 1) + lE n + 6 * lB n + 130) := it_ok (hE.up (by omega) (Nat.le_refl _)) S1 (hB.up (by omega) (Nat.le_refl _))
    have B1 : RG (LV (n + 1)).B (capN n + 4 + 8 + 2) (lB (n + 1)) := bl_ok I1
    exact ⟨E1.up (by omega) (by omega), S1.up (by omega) (by omega), B1.up (by omega) (by omega)⟩
theorem Gd.shaped {N : Nat} {d : D} (h : Gd N d) (hn : N ≤ 64) : SeqAt.shaped d = true := by
  unfold SeqAt.shaped
  rw [h.1]
  exact decide_eq_true (Nat.le_trans h.2 hn)
end My
namespace My
open PySem L2 SX
open C8 (pss_cut tCut cutS_slice pe_gc)
def spCo (K : PySem.W.Frag) : Nat → Sp
  | 0 => spNo
  | j + 1 => spR K [.int ((j + 1 : Nat) : Int)] (LV (j + 1)).S (1 + cE j + 2 * cS j)
def spBl1 (K : PySem.W.Frag) : Nat → Sp
  | 0 => spNo
  | j + 1 => spBl K j
def spSt1 (K : PySem.W.Frag) : Nat → Sp
  | 0 => spNo
  | j + 1 => spSt K j
theorem eqv_blk {k : Str} {fs : List D} (h : PyData.eqv (tup k fs) (dBlk []) = true) : tup k fs = dBlk [] := by
  have h' : ((k == ("block" : Str)) && PyData.eqvAll fs [.tuple []]) = true := h
  obtain ⟨h1, h2⟩ := Bool.and_eq_true_iff.mp h'
  have e : k = "block" := by simpa using h1
  subst e
  cases fs with
  | nil => cases h2
  | cons x r =>
    have h3 : (PyData.eqv x (.tuple []) && PyData.eqvAll r []) = true := h2
    obtain ⟨h4, h5⟩ := Bool.and_eq_true_iff.mp h3
    cases r with
    | cons y r => cases h5
    | nil =>
      cases x with
      | tuple xs =>
        cases xs with
        | nil => rfl
        | cons y r => cases h4
      | _ => cases h4
theorem iw_nil {It : Rl} {suf : List Nat} {a ds b at_ s ds'} (w : IW It suf a ds b at_ s ds') (h : ds = []) : b = a := by
  cases w with
  | nil => rfl
  | snoc _ _ => simp at h
def headS : D → Str
  | .tuple (.str k :: _) => k
  | _ => ""
theorem st_blk {E0 E S B It : Rl} (hB : B = noR ∨ B = BlF It) {a b at_ : Int} {d d' : D} {s : List Nat} (w : StF E0 E S B a d b at_ s d') (hd : d = dBlk []) : b = a := by
  have hh : headS d = "block" := by rw [hd]; rfl
  cases w with
  | block w =>
    rcases hB with rfl | rfl
    · exact w.elim
    · cases w with
      | mk _ _ w =>
        refine iw_nil w ?_
        unfold dBlk tup at hd
        injection hd with e
        injection e with _ e
        injection e with e _
        injection e
  | do_ w => exact absurd (show ("do" : Str) = "block" from hh) (by decide +kernel)
  | brk => exact absurd (show ("break" : Str) = "block" from hh) (by decide +kernel)
  | cont => exact absurd (show ("continue" : Str) = "block" from hh) (by decide +kernel)
  | ret0 => exact absurd (show ("return" : Str) = "block" from hh) (by decide +kernel)
  | ret w => exact absurd (show ("return" : Str) = "block" from hh) (by decide +kernel)
  | throw w => exact absurd (show ("throw" : Str) = "block" from hh) (by decide +kernel)
  | try_ w v => exact absurd (show ("try" : Str) = "block" from hh) (by decide +kernel)
  | while_ w v => exact absurd (show ("while" : Str) = "block" from hh) (by decide +kernel)
  | for_ w v => exact absurd (show ("for" : Str) = "block" from hh) (by decide +kernel)
  | if1 w v => exact absurd (show ("if" : Str) = "block" from hh) (by decide +kernel)
  | if2 w v _ u => exact absurd (show ("if" : Str) = "block" from hh) (by decide +kernel)
theorem lv_blk : ∀ (n : Nat) {a b at_ : Int} {d d' : D} {s : List Nat}, (LV n).S a d b at_ s d' → d = dBlk [] → b = a
  | 0, _, _, _, _, _, _, w => st_blk (It := noR) (.inl rfl) w
  | 1, _, _, _, _, _, _, w => st_blk (.inr rfl) w
  | n + 2, _, _, _, _, _, _, w => st_blk (.inr rfl) w
section
variable {P : Program} {w : World} {K : PySem.W.Frag} {mg : Str → Option Value} {base : Heap} {aDraw aLeaf aTerms aExpression aCompound aAssignment aFunction aBlock aItem aMember aStatement aConditional : Addr} {dDraw dLeaf dTerms dExpression dCompound dAssignment dFunction dBlock dItem dMember dStatement dConditional : FuncData}
/-! ### _law_conditional -/
theorem scConditional : FnScope ["state", "deep", "worth", "body", "other"] ["state", "deep"] (defScope sConditional) := ⟨rfl, rfl, rfl, by decide +kernel, rfl, by decide +kernel, by decide +kernel⟩
theorem ok_conditional (L : TD K mg aDraw aLeaf aTerms aExpression aCompound aAssignment aFunction aBlock aItem aMember aStatement aConditional dDraw dLeaf dTerms dExpression dCompound dAssignment dFunction dBlock dItem dMember dStatement dConditional) (B : Bl mg) (j : Nat) (hj3 : j ≤ 3) {k : Nat} (hk : 1 ≤ k) (G_law_expression : FnOk P w K mg base CX0 k aExpression dExpression ["state", "deep"] (spE K (j + 1)))
    (G_law_statement : FnOk P w K mg base CX0 k aStatement dStatement ["state", "deep"] (spSt K j)) :
    FnOk P w K mg base CX0 (k + 1) aConditional dConditional ["state", "deep"] (spCo K (j + 1)) := by
  have G_law_draw : FnOk P w K mg base CX0 1 aDraw dDraw ["state", "count"] spDraw := ok_draw L.f_law_draw B
  refine L.f_law_conditional.ok scConditional (fun vs H Q E h => ?_) (fun cdv A outer s H vs Q E hr h => ?_)
  · obtain ⟨p, a, n, rfl, _⟩ := h
    rfl
  · obtain ⟨p, a, m, rfl, st, hb, q⟩ := h
    obtain ⟨j1, j2, j3⟩ := cc_nn j
    have ed : ((j + 1 : Nat) : Int) - 1 = (j : Nat) := by omega
    have dd : [V.ref p, V.int (((j + 1 : Nat) : Int) - 1)] = [V.ref p, V.int (j : Nat)] := by rw [ed]
    refine ⟨_, pss_cons (ps_set (i := 2) scConditional.nd rfl (.inl rfl) (pe_call G_law_expression (hr.mono (by omega)) (by rfl) L.g_law_expression L.f_law_expression.kp L.b_law_expression .nil pass0 (pa_cons (pv 0) (pa_cons (pe_op op_sub (pv 1) pe_int) pa_nil))))
      (pss_cons (ps_set (i := 3) scConditional.nd rfl (.inl rfl) (pe_call G_law_statement (hr.mono (by omega)) (by rfl) L.g_law_statement L.f_law_statement.kp L.b_law_statement .nil pass0 (pa_cons (pv 0) (pa_cons (pe_op op_sub (pv 1) pe_int) pa_nil))))
      (pss_cons (ps_set (i := 4) scConditional.nd rfl (.inl rfl) pe_non)
      (pss_cut (ps_if (pt_cmpR op_eq (pe_call G_law_draw (hr.mono (by omega)) (by rfl) L.g_law_draw L.f_law_draw.kp L.b_law_draw .nil pass0 (pa_cons (pv 0) (pa_cons pe_int pa_nil))) pe_int (nomark _))
        (pss_cons (ps_set (i := 4) scConditional.nd rfl (.inl rfl) (pe_call G_law_statement (hr.mono (by omega)) (by rfl) L.g_law_statement L.f_law_statement.kp L.b_law_statement .nil pass0 (pa_cons (pv 0) (pa_cons (pe_op op_sub (pv 1) pe_int) pa_nil))))
        (pss_one (ps_if (pt_cmpR (op_eqD hr.units) (pv 4) (pe_tup (pa_cons pe_str (pa_cons (pe_tup pa_nil) pa_nil))) (nomark _))
          (pss_one (ps_set (i := 4) scConditional.nd rfl (.inl rfl) pe_non))
          pss_nil)))
        pss_nil)
      (pss_one (ps_ret (pe_tup (pa_cons pe_str (pa_cons pe_int (pa_cons (pv 2) (pa_cons (pv 3) (pa_cons (pv 4) pa_nil))))))))))), ?_⟩
    refine ⟨_, rfl, _, rfl, _, _, rfl, rfl, p, a, m, dd, st, by omega, fun H1 v1 d1 at1 num1 k1 st1 b1 b2 hv1 hd1 => ?_⟩
    refine ⟨_, rfl, _, rfl, _, _, rfl, rfl, p, at1, num1, dd, st1, by omega, fun H2 v2 d2 at2 num2 k2 st2 b3 b4 hv2 hd2 => ?_⟩
    let M : List (Option V) → Hp → Prop := fun σ H' => ∃ (vo : V) (do_ : PyData) (at' num' : Int), σ = [some (.ref p), some (.int ((j + 1 : Nat) : Int)), some v1, some v2, some vo] ∧ Keep p H2 H' ∧ SD p at' num' H' ∧ at2 ≤ at' ∧ at' ≤ at2 + 1 + cS j ∧ Tp K H' vo do_ ∧ ((do_ = .none ∧ num' = num2) ∨ (do_ ≠ dBlk [] ∧ Dr (LV j).S num2 do_ num'))
    refine ⟨M, ⟨_, rfl, p, at2, num2, 2, rfl, st2, by decide, by omega, fun H3 i k3 st3 i0 i2 => ⟨rfl, _, rfl, ite2 (fun e => ?_) (fun e => ?_)⟩⟩, ?_⟩
    · refine ⟨_, rfl, _, rfl, _, _, rfl, rfl, p, at2 + 1, num2, dd, st3, by omega, fun H4 v3 d3 at4 num4 k4 st4 b5 b6 hv3 hd3 => ?_⟩
      obtain ⟨s0, d0, w0⟩ := hd3 0
      have hsh : SeqAt.shaped d3 = true := by
        refine ((lv_ok j).2.1.ok w0).1.shaped ?_
        unfold capN
        omega
      refine ⟨_, rfl, Nat.zero_le _, fun y ny => ⟨(by show 2 ≤ sizeLine; decide), fun z nz => ?_⟩⟩
      have hz : Tp K (upd (upd H4 y (.tup [])) z (.tup [.str "block", .ref y])) (.ref z) (dBlk []) := tp_new nz (.cons (.str _) (.cons (tp_new ny .nil) .nil))
      have hv3' := tp_same (same_upd (o := .tup [.str "block", .ref y]) nz) (tp_same (same_upd (o := .tup []) ny) hv3)
      refine ⟨d3, dBlk [], hv3'.dp, hz.dp, hsh, by decide +kernel, _, rfl, ite2 (fun e2 => ?_) (fun e2 => ?_)⟩
      · have e3 : d3 = dBlk [] := by
          obtain ⟨kk, fs, ek, _⟩ := lv_head j w0
          rw [ek] at e2 ⊢
          exact eqv_blk e2
        have en : num4 = num2 := by
          subst e3
          exact lv_blk j w0 rfl
        exact ⟨.non, .none, at4, num4, rfl, ((k3.trans k4).lay ny).lay nz, (st4.lay ny).lay nz, by omega, by omega, .non, .inl ⟨rfl, en⟩⟩
      · refine ⟨v3, d3, at4, num4, rfl, ((k3.trans k4).lay ny).lay nz, (st4.lay ny).lay nz, by omega, by omega, hv3', .inr ⟨fun z => e2 ?_, hd3⟩⟩
        rw [z]
        decide +kernel
    · exact ⟨.non, .none, at2 + 1, num2, rfl, k3, st3, by omega, by omega, .non, .inl ⟨rfl, rfl⟩⟩
    rintro σ H' ⟨vo, dO, at', num', rfl, k3, st3, a1, a2, hvo, hdo⟩
    refine ⟨_, rfl, _, rfl, _, rfl, (by show 5 ≤ sizeLine; decide), fun z nz => ?_⟩
    refine q _ _ _ at' num' (((k1.trans k2).trans k3).lay nz) (st3.lay nz) (by omega) (by omega) (tp_new nz (.cons (.str _) (.cons (.int _) (.cons (st2.tp k3 (st1.tp k2 hv1)) (.cons (st2.tp k3 hv2) (.cons hvo .nil)))))) fun at_ => ?_
    obtain ⟨s1, d1', w1⟩ := hd1 (at_ + 3)
    obtain ⟨s2, d2', w2⟩ := hd2 (at_ + len (cs "if(" ++ s1 ++ [41]))
    rcases hdo with ⟨rfl, rfl⟩ | ⟨hne, hdo⟩
    · exact ⟨_, _, .if1 w1 w2⟩
    · obtain ⟨s3, d3', w3⟩ := hdo (at_ + len (cs "if(" ++ s1 ++ [41] ++ s2 ++ cs " else "))
      exact ⟨_, _, .if2 w1 w2 hne w3⟩
/-! ### _law_statement -/
theorem scStatement : FnScope ["state", "deep", "choice", "worth", "block"] ["state", "deep"] (defScope sStatement) := ⟨rfl, rfl, rfl, by decide +kernel, rfl, by decide +kernel, by decide +kernel⟩
theorem ok_statement (L : TD K mg aDraw aLeaf aTerms aExpression aCompound aAssignment aFunction aBlock aItem aMember aStatement aConditional dDraw dLeaf dTerms dExpression dCompound dAssignment dFunction dBlock dItem dMember dStatement dConditional) (B : Bl mg) (n : Nat) {k : Nat} (hk : 1 ≤ k) (G0 : FnOk P w K mg base CX0 k aExpression dExpression ["state", "deep"] (spR K [.int (n : Nat)] (LV n).E (cE n)))
    (G_law_expression : FnOk P w K mg base CX0 k aExpression dExpression ["state", "deep"] (spE K n)) (G_law_block : FnOk P w K mg base CX0 k aBlock dBlock ["state", "deep"] (spBl1 K n))
    (G_law_conditional : FnOk P w K mg base CX0 k aConditional dConditional ["state", "deep"] (spCo K n)) (G_law_statement : FnOk P w K mg base CX0 k aStatement dStatement ["state", "deep"] (spSt1 K n)) :
    FnOk P w K mg base CX0 (k + 1) aStatement dStatement ["state", "deep"] (spSt K n) := by
  have G_law_draw : FnOk P w K mg base CX0 1 aDraw dDraw ["state", "count"] spDraw := ok_draw L.f_law_draw B
  refine L.f_law_statement.ok scStatement (fun vs H Q E h => ?_) (fun cdv A outer s H vs Q E hr h => ?_)
  · obtain ⟨p, a, m, rfl, _⟩ := h
    rfl
  · obtain ⟨p, a, m, rfl, st, hb, q⟩ := h
    obtain ⟨n1, n2, n3⟩ := cc_nn n
    have hS : cE n + 1 ≤ cS n := by
      cases n with
      | zero => decide
      | succ j =>
        obtain ⟨j1, j2, j3⟩ := cc_nn j
        have := cS_s j
        omega
    refine ⟨_, pss_cons (ps_set (i := 2) scStatement.nd rfl (.inl rfl) (pe_call G_law_draw (hr.mono (by omega)) (by rfl) L.g_law_draw L.f_law_draw.kp L.b_law_draw .nil pass0 (pa_cons (pv 0) (pa_cons pe_int pa_nil))))
      (pss_cons (ps_if (PW.pt (pw_or (pt_cmpR op_le (pv 1) pe_int (nomark _)) (pw_or1 (pt_cmpR op_lt (pv 2) pe_int (nomark _)))))
        (pss_one (ps_ret (pe_tup (pa_cons pe_str (pa_cons (pe_call G0 (hr.mono (by omega)) (by rfl) L.g_law_expression L.f_law_expression.kp L.b_law_expression .nil pass0 (pa_cons (pv 0) (pa_cons (pv 1) pa_nil))) pa_nil)))))
        pss_nil)
      (pss_cons (ps_if (pt_cmpR op_eq (pv 2) pe_int (nomark _))
        (pss_one (ps_ret (pe_call G_law_block (hr.mono (by omega)) (by rfl) L.g_law_block L.f_law_block.kp L.b_law_block .nil pass0 (pa_cons (pv 0) (pa_cons (pe_op op_sub (pv 1) pe_int) pa_nil)))))
        pss_nil)
      (pss_cons (ps_if (pt_cmpR op_lt (pv 2) pe_int (nomark _))
        (pss_one (ps_ret (pe_call G_law_conditional (hr.mono (by omega)) (by rfl) L.g_law_conditional L.f_law_conditional.kp L.b_law_conditional .nil pass0 (pa_cons (pv 0) (pa_cons (pv 1) pa_nil)))))
        pss_nil)
      (pss_cons (ps_if (pt_cmpR op_eq (pv 2) pe_int (nomark _))
        (pss_cons (ps_set (i := 3) scStatement.nd rfl (.inl rfl) (pe_call G_law_expression (hr.mono (by omega)) (by rfl) L.g_law_expression L.f_law_expression.kp L.b_law_expression .nil pass0 (pa_cons (pv 0) (pa_cons (pe_op op_sub (pv 1) pe_int) pa_nil))))
        (pss_one (ps_ret (pe_tup (pa_cons pe_str (pa_cons pe_int (pa_cons (pv 3) (pa_cons (pe_call G_law_statement (hr.mono (by omega)) (by rfl) L.g_law_statement L.f_law_statement.kp L.b_law_statement .nil pass0 (pa_cons (pv 0) (pa_cons (pe_op op_sub (pv 1) pe_int) pa_nil))) pa_nil))))))))
        pss_nil)
      (pss_cons (ps_if (pt_cmpR op_eq (pv 2) pe_int (nomark _))
        (pss_cons (ps_set (i := 3) scStatement.nd rfl (.inl rfl) (pe_call G_law_expression (hr.mono (by omega)) (by rfl) L.g_law_expression L.f_law_expression.kp L.b_law_expression .nil pass0 (pa_cons (pv 0) (pa_cons (pe_op op_sub (pv 1) pe_int) pa_nil))))
        (pss_one (ps_ret (pe_tup (pa_cons pe_str (pa_cons pe_int (pa_cons pe_int (pa_cons pe_str (pa_cons (pv 3) (pa_cons (pe_call G_law_statement (hr.mono (by omega)) (by rfl) L.g_law_statement L.f_law_statement.kp L.b_law_statement .nil pass0 (pa_cons (pv 0) (pa_cons (pe_op op_sub (pv 1) pe_int) pa_nil))) pa_nil))))))))))
        pss_nil)
      (pss_cons (ps_if (pt_cmpR op_eq (pv 2) pe_int (nomark _))
        (pss_cons (ps_set (i := 4) scStatement.nd rfl (.inl rfl) (pe_call G_law_block (hr.mono (by omega)) (by rfl) L.g_law_block L.f_law_block.kp L.b_law_block .nil pass0 (pa_cons (pv 0) (pa_cons (pe_op op_sub (pv 1) pe_int) pa_nil))))
        (pss_one (ps_ret (pe_tup (pa_cons pe_str (pa_cons pe_int (pa_cons (pv 4) (pa_cons pe_int (pa_cons pe_str (pa_cons (pe_call G_law_block (hr.mono (by omega)) (by rfl) L.g_law_block L.f_law_block.kp L.b_law_block .nil pass0 (pa_cons (pv 0) (pa_cons (pe_op op_sub (pv 1) pe_int) pa_nil))) pa_nil))))))))))
        pss_nil)
      (pss_cons (ps_if (pt_cmpR op_eq (pv 2) pe_int (nomark _))
        (pss_one (ps_ret (pe_ix ix_list (pe_lst (pa_cons (pe_tup (pa_cons pe_str (pa_cons pe_int pa_nil))) (pa_cons (pe_tup (pa_cons pe_str (pa_cons pe_int pa_nil))) (pa_cons (pe_tup (pa_cons pe_str (pa_cons pe_int (pa_cons (pe_tup (pa_cons pe_str pa_nil)) pa_nil)))) pa_nil)))) (pe_call G_law_draw (hr.mono (by omega)) (by rfl) L.g_law_draw L.f_law_draw.kp L.b_law_draw .nil pass0 (pa_cons (pv 0) (pa_cons pe_int pa_nil))) (fun _ _ => rfl))))
        pss_nil)
      (pss_one (ps_ret (pe_tup (pa_cons (pe_ix ix_list (pe_lst (pa_cons pe_str (pa_cons pe_str pa_nil))) (pe_call G_law_draw (hr.mono (by omega)) (by rfl) L.g_law_draw L.f_law_draw.kp L.b_law_draw .nil pass0 (pa_cons (pv 0) (pa_cons pe_int pa_nil))) (fun _ _ => rfl)) (pa_cons pe_int (pa_cons (pe_call G_law_expression (hr.mono (by omega)) (by rfl) L.g_law_expression L.f_law_expression.kp L.b_law_expression .nil pass0 (pa_cons (pv 0) (pa_cons (pe_op op_sub (pv 1) pe_int) pa_nil))) pa_nil))))))))))))), ?_⟩
    refine ⟨_, rfl, p, a, m, 12, rfl, st, by decide, by omega, fun H1 c k1 st1 c0 c12 => ?_⟩
    have dox : ∀ {e : PyData} {b : Int}, Dr (LV n).E m e b → Dr (LV n).S m (tup "do" [e]) b := fun {e b} h at_ => by
      obtain ⟨s, e', w⟩ := h (at_ + 1)
      cases n with
      | zero => exact ⟨_, _, .do_ w⟩
      | succ j => exact ⟨_, _, .do_ w⟩
    have fin0 : ∀ {H2 : Hp} {v : V} {d : PyData} {at2 num2 : Int} {z : Addr}, Keep p H1 H2 → SD p at2 num2 H2 → a + 1 ≤ at2 → at2 ≤ a + 1 + cE n → Tp K H2 v d → Dr (LV n).E m d num2 → H2 z = none → Q (.ref z) (upd H2 z (.tup [.str "do", v])) := fun k2 st2 b1 b2 hv hd nz =>
      q _ _ _ _ _ ((k1.trans k2).lay nz) (st2.lay nz) (by omega) (by omega) (tp_new nz (.cons (.str _) (.cons hv .nil))) (dox hd)
    refine ⟨_, rfl, _, _, rfl, rfl, _, rfl, ite2 (fun e => iteT ⟨_, rfl, _, rfl, p, a + 1, m, rfl, st1, by omega, fun H2 v d at2 num2 k2 st2 b1 b2 hv hd => ⟨(by show 2 ≤ sizeLine; decide), fun z nz => fin0 k2 st2 b1 b2 hv hd nz⟩⟩) (fun e => ⟨_, rfl, _, _, rfl, rfl, _, rfl, ite2 (fun e => ⟨_, rfl, _, rfl, p, a + 1, m, rfl, st1, by omega, fun H2 v d at2 num2 k2 st2 b1 b2 hv hd => ⟨(by show 2 ≤ sizeLine; decide), fun z nz => fin0 k2 st2 b1 b2 hv hd nz⟩⟩) (fun e4 => ?_)⟩)⟩
    obtain ⟨j, rfl⟩ : ∃ j, n = j + 1 := by
      cases n with
      | zero => exact absurd (decide_eq_true (by decide : ((0 : Nat) : Int) ≤ 0)) e
      | succ j => exact ⟨j, rfl⟩
    have ed : ((j + 1 : Nat) : Int) - 1 = (j : Nat) := by omega
    have dd : [V.ref p, V.int (((j + 1 : Nat) : Int) - 1)] = [V.ref p, V.int (j : Nat)] := by rw [ed]
    obtain ⟨j1, j2, j3⟩ := cc_nn j
    have eS := cS_s j
    refine ⟨_, rfl, rfl, _, rfl, ite2 (fun e => ?_) (fun e => ?_)⟩
    · refine ⟨_, rfl, _, rfl, _, _, rfl, rfl, p, a + 1, m, dd, st1, by omega, fun H2 v d at2 num2 k2 st2 b1 b2 hv hd => ?_⟩
      exact q _ _ _ _ _ (k1.trans k2) st2 (by omega) (by omega) hv fun at_ => by
        obtain ⟨s, d', w⟩ := hd at_
        exact ⟨_, _, .block w⟩
    refine ⟨_, rfl, _, _, rfl, rfl, _, rfl, ite2 (fun e => ?_) (fun e => ?_)⟩
    · refine ⟨_, rfl, _, rfl, p, a + 1, m, rfl, st1, by omega, fun H2 v d at2 num2 k2 st2 b1 b2 hv hd => ?_⟩
      exact q _ _ _ _ _ (k1.trans k2) st2 (by omega) (by omega) hv hd
    refine ⟨_, rfl, rfl, _, rfl, ite2 (fun e => ?_) (fun e => ?_)⟩
    · refine ⟨_, rfl, _, rfl, _, _, rfl, rfl, p, a + 1, m, dd, st1, by omega, fun H2 v1 d1 at2 num2 k2 st2 b1 b2 hv1 hd1 => ?_⟩
      refine ⟨_, rfl, _, rfl, _, rfl, _, _, rfl, rfl, p, at2, num2, dd, st2, by omega, fun H3 v2 d2 at3 num3 k3 st3 b3 b4 hv2 hd2 => ?_⟩
      refine ⟨(by show 4 ≤ sizeLine; decide), fun z nz => ?_⟩
      exact q _ _ _ _ _ (((k1.trans k2).trans k3).lay nz) (st3.lay nz) (by omega) (by omega) (tp_new nz (.cons (.str _) (.cons (.int _) (.cons (st2.tp k3 hv1) (.cons hv2 .nil))))) fun at_ => by
        obtain ⟨s1, d1', w1⟩ := hd1 (at_ + 6)
        obtain ⟨s2, d2', w2⟩ := hd2 (at_ + len (cs "while(" ++ s1 ++ [41]))
        exact ⟨_, _, .while_ w1 w2⟩
    refine ⟨_, rfl, rfl, _, rfl, ite2 (fun e => ?_) (fun e => ?_)⟩
    · refine ⟨_, rfl, _, rfl, _, _, rfl, rfl, p, a + 1, m, dd, st1, by omega, fun H2 v1 d1 at2 num2 k2 st2 b1 b2 hv1 hd1 => ?_⟩
      refine ⟨_, rfl, _, rfl, _, rfl, _, _, rfl, rfl, p, at2, num2, dd, st2, by omega, fun H3 v2 d2 at3 num3 k3 st3 b3 b4 hv2 hd2 => ?_⟩
      refine ⟨(by show 6 ≤ sizeLine; decide), fun z nz => ?_⟩
      exact q _ _ _ _ _ (((k1.trans k2).trans k3).lay nz) (st3.lay nz) (by omega) (by omega) (tp_new nz (.cons (.str _) (.cons (.int _) (.cons (.int _) (.cons (.str _) (.cons (st2.tp k3 hv1) (.cons hv2 .nil))))))) fun at_ => by
        obtain ⟨s1, d1', w1⟩ := hd1 (at_ + 9)
        obtain ⟨s2, d2', w2⟩ := hd2 (at_ + len (cs "for(e in " ++ s1 ++ [41]))
        exact ⟨_, _, .for_ w1 w2⟩
    refine ⟨_, rfl, rfl, _, rfl, ite2 (fun e => ?_) (fun e => ?_)⟩
    · refine ⟨_, rfl, _, rfl, _, _, rfl, rfl, p, a + 1, m, dd, st1, by omega, fun H2 v1 d1 at2 num2 k2 st2 b1 b2 hv1 hd1 => ?_⟩
      refine ⟨_, rfl, _, rfl, _, rfl, _, _, rfl, rfl, p, at2, num2, dd, st2, by omega, fun H3 v2 d2 at3 num3 k3 st3 b3 b4 hv2 hd2 => ?_⟩
      refine ⟨(by show 6 ≤ sizeLine; decide), fun z nz => ?_⟩
      exact q _ _ _ _ _ (((k1.trans k2).trans k3).lay nz) (st3.lay nz) (by omega) (by omega) (tp_new nz (.cons (.str _) (.cons (.int _) (.cons (st2.tp k3 hv1) (.cons (.int _) (.cons (.str _) (.cons hv2 .nil))))))) fun at_ => by
        obtain ⟨s1, d1', w1⟩ := hd1 (at_ + 3)
        obtain ⟨s2, d2', w2⟩ := hd2 (at_ + len (cs "try" ++ s1 ++ cs "catch(" ++ cs "e" ++ [41]))
        exact ⟨_, _, .try_ w1 w2⟩
    refine ⟨_, rfl, rfl, _, rfl, ite2 (fun e => ?_) (fun e => ?_)⟩
    · refine ⟨(by show 2 ≤ sizeLine; decide), fun y1 ny1 => ?_⟩
      refine ⟨(by show 2 ≤ sizeLine; decide), fun y2 ny2 => ?_⟩
      refine ⟨(by show 1 ≤ sizeLine; decide), fun y3 ny3 => ?_⟩
      refine ⟨(by show 3 ≤ sizeLine; decide), fun y4 ny4 => ?_⟩
      refine ⟨(by show 3 ≤ sizeLine; decide), fun y5 ny5 => ?_⟩
      have t1 := tp_same (same_upd (o := .lst [.ref y1, .ref y2, .ref y4]) ny5) (tp_same (same_upd (o := .tup [.str "return", .int 0, .ref y3]) ny4) (tp_same (same_upd (o := .tup [.str "null"]) ny3) (tp_same (same_upd (o := .tup [.str "continue", .int 0]) ny2) (tp_new (K := K) (xs := [.str "break", .int 0]) (ds := [.str "break", .int 0]) ny1 (.cons (.str _) (.cons (.int _) .nil))))))
      have t2 := tp_same (same_upd (o := .lst [.ref y1, .ref y2, .ref y4]) ny5) (tp_same (same_upd (o := .tup [.str "return", .int 0, .ref y3]) ny4) (tp_same (same_upd (o := .tup [.str "null"]) ny3) (tp_new (K := K) (xs := [.str "continue", .int 0]) (ds := [.str "continue", .int 0]) ny2 (.cons (.str _) (.cons (.int _) .nil)))))
      have t3 := tp_same (same_upd (o := .lst [.ref y1, .ref y2, .ref y4]) ny5) (tp_new (K := K) (xs := [.str "return", .int 0, .ref y3]) (ds := [.str "return", .int 0, tup "null" []]) ny4 (.cons (.str _) (.cons (.int _) (.cons (tp_new (K := K) (xs := [.str "null"]) (ds := [.str "null"]) ny3 (.cons (.str _) .nil)) .nil))))
      refine ⟨_, rfl, p, a + 1, m, 3, rfl, ((((st1.lay ny1).lay ny2).lay ny3).lay ny4).lay ny5, by decide, by omega, fun H2 i k2 st2 i0 i3 => ?_⟩
      have stx := ((((st1.lay ny1).lay ny2).lay ny3).lay (o := .tup [.str "return", .int 0, .ref y3]) ny4)
      have h5 := k2 _ _ upd_same (stx.ne ny5)
      have kk := (((((k1.lay ny1).lay ny2).lay ny3).lay ny4).lay ny5).trans k2
      have h : i = 0 ∨ i = 1 ∨ i = 2 := by omega
      rcases h with rfl | rfl | rfl
      · exact ⟨y5, _, _, V.ref y1, rfl, rfl, SqL.of h5, rfl, q _ _ _ _ _ kk st2 (by omega) (by omega) ((stx.lay ny5).tp k2 t1) fun at_ => ⟨_, _, .brk⟩⟩
      · exact ⟨y5, _, _, V.ref y2, rfl, rfl, SqL.of h5, rfl, q _ _ _ _ _ kk st2 (by omega) (by omega) ((stx.lay ny5).tp k2 t2) fun at_ => ⟨_, _, .cont⟩⟩
      · exact ⟨y5, _, _, V.ref y4, rfl, rfl, SqL.of h5, rfl, q _ _ _ _ _ kk st2 (by omega) (by omega) ((stx.lay ny5).tp k2 t3) fun at_ => ⟨_, _, .ret0⟩⟩
    refine ⟨(by show 2 ≤ sizeLine; decide), fun y ny => ?_⟩
    refine ⟨_, rfl, p, a + 1, m, 2, rfl, st1.lay ny, by decide, by omega, fun H2 i k2 st2 i0 i2 => ?_⟩
    have hy := k2 _ _ upd_same (st1.ne ny)
    have h : i = 0 ∨ i = 1 := by omega
    rcases h with rfl | rfl
    · refine ⟨y, _, _, V.str "return", rfl, rfl, SqL.of hy, rfl, _, rfl, _, rfl, _, _, rfl, rfl, p, a + 1 + 1, m, dd, st2, by omega, fun H3 v d at3 num3 k3 st3 b1 b2 hv hd => ?_⟩
      refine ⟨(by show 3 ≤ sizeLine; decide), fun z nz => ?_⟩
      exact q _ _ _ _ _ ((((k1.lay ny).trans k2).trans k3).lay nz) (st3.lay nz) (by omega) (by omega) (tp_new nz (.cons (.str _) (.cons (.int _) (.cons hv .nil)))) fun at_ => by
        obtain ⟨s, d', w⟩ := hd (at_ + 6 + 1)
        exact ⟨_, _, .ret w⟩
    · refine ⟨y, _, _, V.str "throw", rfl, rfl, SqL.of hy, rfl, _, rfl, _, rfl, _, _, rfl, rfl, p, a + 1 + 1, m, dd, st2, by omega, fun H3 v d at3 num3 k3 st3 b1 b2 hv hd => ?_⟩
      refine ⟨(by show 3 ≤ sizeLine; decide), fun z nz => ?_⟩
      exact q _ _ _ _ _ ((((k1.lay ny).trans k2).trans k3).lay nz) (st3.lay nz) (by omega) (by omega) (tp_new nz (.cons (.str _) (.cons (.int _) (.cons hv .nil)))) fun at_ => by
        obtain ⟨s, d', w⟩ := hd (at_ + 5 + 1)
        exact ⟨_, _, .throw w⟩
/-! ### all of them, level by level -/
theorem ok_levels (L : TD K mg aDraw aLeaf aTerms aExpression aCompound aAssignment aFunction aBlock aItem aMember aStatement aConditional dDraw dLeaf dTerms dExpression dCompound dAssignment dFunction dBlock dItem dMember dStatement dConditional) (B : Bl mg) : ∀ n, n ≤ 3 → FnOk P w K mg base CX0 (12 * n + 8) aExpression dExpression ["state", "deep"] (spR K [.int (n : Nat)] (LV n).E (cE n)) ∧ FnOk P w K mg base CX0 (12 * n + 10) aStatement dStatement ["state", "deep"] (spSt K n) ∧
    FnOk P w K mg base CX0 (12 * n + 12) aBlock dBlock ["state", "deep"] (spBl K n)
  | 0, _ => by
    have e : FnOk P w K mg base CX0 8 aExpression dExpression ["state", "deep"] (spR K [.int ((0 : Nat) : Int)] (LV 0).E (cE 0)) := (ok_expression L B 0 (k := 2) (by decide) ok_no ok_no).mono (by decide)
    have s : FnOk P w K mg base CX0 10 aStatement dStatement ["state", "deep"] (spSt K 0) := (ok_statement L B 0 (k := 8) (by decide) e ok_no ok_no ok_no ok_no).mono (by decide)
    exact ⟨e, s, (ok_block L B 0 (k := 1) (by decide) ok_no).mono (by decide)⟩
  | n + 1, hn => by
    obtain ⟨e, s, b⟩ := ok_levels L B n (by omega)
    have e' : FnOk P w K mg base CX0 (12 * n + 8) aExpression dExpression ["state", "deep"] (spE K (n + 1)) := e
    have f : FnOk P w K mg base CX0 (12 * n + 13) aFunction dFunction ["state", "deep", "params"] (spFn K (n + 1)) := ok_function L B n (by omega) b
    have t : FnOk P w K mg base CX0 (12 * n + 10) aTerms dTerms ["state", "deep", "most"] (spTerms K (LV n).E (cE n) (n : Nat)) := ok_terms L B (by have := cc_nn n; omega) e
    have a : FnOk P w K mg base CX0 (12 * n + 9) aAssignment dAssignment ["state", "deep"] (spAs K (n + 1)) := ok_assignment L B n (by omega) e'
    have c : FnOk P w K mg base CX0 (12 * n + 14) aCompound dCompound ["state", "deep", "choice"] (spCm K (n + 1)) := ok_compound L B n (by omega) (e'.mono (by omega)) (t.mono (by omega)) (a.mono (by omega)) f
    have e1 : FnOk P w K mg base CX0 (12 * n + 15) aExpression dExpression ["state", "deep"] (spR K [.int ((n + 1 : Nat) : Int)] (LV (n + 1)).E (cE (n + 1))) := ok_expression L B (n + 1) (by omega) (e'.mono (by omega)) c
    have co : FnOk P w K mg base CX0 (12 * n + 11) aConditional dConditional ["state", "deep"] (spCo K (n + 1)) := ok_conditional L B n (by omega) (by omega) (e'.mono (by omega)) s
    have s1 : FnOk P w K mg base CX0 (12 * n + 16) aStatement dStatement ["state", "deep"] (spSt K (n + 1)) := ok_statement L B (n + 1) (by omega) e1 (e'.mono (by omega)) (b.mono (by omega)) (co.mono (by omega)) (s.mono (by omega))
    have m : FnOk P w K mg base CX0 (12 * n + 14) aMember dMember ["state", "deep"] (spMe K (n + 1)) := ok_member L B n (by omega) f
    have i : FnOk P w K mg base CX0 (12 * n + 17) aItem dItem ["state", "deep", "items"] (spIt K (n + 1)) := ok_item L B n (by omega) (e'.mono (by omega)) (m.mono (by omega)) s1
    exact ⟨e1.mono (by omega), s1.mono (by omega), (ok_block L B (n + 1) (by omega) i).mono (by omega)⟩
end
end My
namespace My
open PySem L2 SX
open C8 (pss_cut tCut cutS_slice pe_gc)
/-! ### the writer: rules, promises -/
abbrev sInner : Stmt := top 22
abbrev sList : Stmt := top 23
abbrev sWrite : Stmt := top 24
abbrev sBetween : Stmt := top 25
abbrev sMap : Stmt := top 26
abbrev sSuffixed : Stmt := top 27
abbrev sBody : Stmt := top 28
abbrev sBlockText : Stmt := top 29
abbrev sItems : Stmt := top 30
abbrev sItemText : Stmt := top 31
abbrev sMemberText : Stmt := top 32
abbrev sStatementText : Stmt := top 33
abbrev sCompoundText : Stmt := top 34
theorem Same.tr {H1 H2 H3 : Hp} (a : Same H1 H2) (b : Same H2 H3) : Same H1 H3 := fun x o e => b x o (a x o e)
theorem Same.rf {H : Hp} : Same H H := fun _ _ e => e
theorem Same.ly {H H' : Hp} {y : Addr} {o : HO} (a : Same H H') (n : H' y = none) : Same H (upd H' y o) := Same.tr a (same_upd n)
/-- no text is longer -/
def LIM : Nat := 16000000
theorem LIM_eq : LIM = 16000000 := rfl
section
variable {X : Cx}
theorem op_catS : OpR X (binaryOp .Add) (fun x y H Q => ∃ a b : List Nat, x = .str (S a) ∧ y = .str (S b) ∧ a.length + b.length ≤ 16777216 ∧ Q (.str (S (a ++ b))) H) := by
  intro pins s σ H x y v u Q I rx ry h
  obtain ⟨a, b, rfl, rfl, hz, q⟩ := h
  refine op_add_str pins s σ H _ _ v u Q I rx ry ⟨S a, S b, rfl, rfl, by rw [S_len, S_len, sizeLine_eq]; exact hz, ?_⟩
  rw [S_cat]
  exact q
theorem call_lenS : CallR X (.builtin "len") (fun xs H Q => ∃ a : List Nat, xs = [.str (S a)] ∧ a.length ≤ 16777216 ∧ Q (.int (len a)) H) := by
  intro pins s σ H xs us Q I r h
  obtain ⟨a, rfl, hz, q⟩ := h
  refine call_len_str pins s σ H _ us Q I r ⟨S a, rfl, by rw [S_len, sizeLine_eq]; exact hz, ?_⟩
  rw [S_len]
  exact q
end
section
variable {X : Cx}
theorem op_catE : OpR X (binaryOp .Add) (fun x y H Q => ∃ a b c : List Nat, x = .str (S a) ∧ y = .str (S b) ∧ a ++ b = c ∧ c.length ≤ 16777216 ∧ Q (.str (S c)) H) := by
  intro pins s σ H x y v u Q I rx ry h
  obtain ⟨a, b, c, rfl, rfl, rfl, hz, q⟩ := h
  exact op_catS pins s σ H _ _ v u Q I rx ry ⟨a, b, rfl, rfl, by rw [List.length_append] at hz; exact hz, q⟩
theorem call_lenE : CallR X (.builtin "len") (fun xs H Q => ∃ (a : List Nat) (n : Int), xs = [.str (S a)] ∧ a.length ≤ 16777216 ∧ len a = n ∧ Q (.int n) H) := by
  intro pins s σ H xs us Q I r h
  obtain ⟨a, n, rfl, hz, rfl, q⟩ := h
  exact call_lenS pins s σ H _ us Q I r ⟨a, rfl, hz, q⟩
end
theorem sqt_new {K : PySem.W.Frag} {H : Hp} {y : Addr} {xs : List V} (n : H y = none) : SqT K (upd H y (.tup xs)) y xs := .inl (.inl upd_same)
theorem lst_new {H : Hp} {y : Addr} {xs : List V} (n : H y = none) : upd H y (.lst xs) y = some (.lst xs) := upd_same
theorem pe_lit {X : Cx} {x : Str} {k : Nat} {pos : Pos} (l : List Nat) (h : x = S l) : PE X (.Constant (.str x) k pos) (fun _ H Q => Q (.str (S l)) H) := by
  subst h
  exact pe_str
/-- what a writing function promises -/
def spW (K : PySem.W.Frag) (R : Rl) : Sp := fun vs H Q _ => ∃ (v : V) (d : D) (a b at_ : Int) (s : List Nat) (d' : D), vs = [v, .int at_] ∧ Tp K H v d ∧ R a d b at_ s d' ∧ s.length ≤ LIM ∧
  ∀ H' y v', Same H H' → H' y = some (.lst [.str (S s), v']) → Tp K H' v' d' → Q (.ref y) H'
theorem spW_len {K : PySem.W.Frag} {R : Rl} : ∀ vs H Q E, spW K R vs H Q E → vs.length = 2 := fun vs H Q E h => by
  obtain ⟨v, d, a, b, at_, s, d', rfl, _⟩ := h
  rfl
theorem spW_imp {K : PySem.W.Frag} {R R' : Rl} (h : ∀ {a d b at_ s d'}, R a d b at_ s d' → ∃ a' b', R' a' d b' at_ s d') : ∀ vs H Q E, spW K R vs H Q E → spW K R' vs H Q E := fun vs H Q E ⟨v, d, a, b, at_, s, d', e, t, w, l, q⟩ => by
  obtain ⟨a', b', w'⟩ := h w
  exact ⟨v, d, a', b', at_, s, d', e, t, w', l, q⟩
theorem spW_no {K : PySem.W.Frag} : ∀ vs H Q E, spW K noR vs H Q E → False := fun vs H Q E ⟨v, d, a, b, at_, s, d', e, t, w, l, q⟩ => w
theorem ok_noW {P : Program} {w : World} {K : PySem.W.Frag} {mg : Str → Option Value} {base : Heap} {k : Nat} {f : Addr} {fd : FuncData} {ps : List Str} : FnOk P w K mg base CX0 k f fd ps (spW K noR) :=
  ⟨fun vs H Q E h => (spW_no vs H Q E h).elim, fun _ _ _ _ _ _ _ _ _ _ _ _ _ h => (spW_no _ _ _ _ h).elim⟩
def OrR (R1 R2 : Rl) : Rl := fun a d b at_ s d' => R1 a d b at_ s d' ∨ R2 a d b at_ s d'
theorem ok_orW {P : Program} {w : World} {K : PySem.W.Frag} {mg : Str → Option Value} {base : Heap} {k : Nat} {f : Addr} {fd : FuncData} {ps : List Str} {R1 R2 : Rl} (G1 : FnOk P w K mg base CX0 k f fd ps (spW K R1)) (G2 : FnOk P w K mg base CX0 k f fd ps (spW K R2)) :
    FnOk P w K mg base CX0 k f fd ps (spW K (OrR R1 R2)) := by
  have hh : ∀ vs H Q E, spW K (OrR R1 R2) vs H Q E → spW K R1 vs H Q E ∨ spW K R2 vs H Q E := fun vs H Q E ⟨v, d, a, b, at_, s, d', e, t, w, l, q⟩ => by
    rcases w with w | w
    · exact .inl ⟨v, d, a, b, at_, s, d', e, t, w, l, q⟩
    · exact .inr ⟨v, d, a, b, at_, s, d', e, t, w, l, q⟩
  refine ⟨fun vs H Q E h => ?_, fun A outer s H args us vs Q E hr he hb hv hs => ?_⟩
  · rcases hh _ _ _ _ h with h | h
    · exact G1.len _ _ _ _ h
    · exact G2.len _ _ _ _ h
  · rcases hh _ _ _ _ hs with h | h
    · exact G1.run A outer s H args us vs Q E hr he hb hv h
    · exact G2.run A outer s H args us vs Q E hr he hb hv h
/-! fields of drawn tuples -/
section
variable {K : PySem.W.Frag} {H : Hp}
theorem tp_int {v : V} {i : Int} (h : Tp K H v (.int i)) : v = .int i := by cases h; rfl
theorem tp_str {v : V} {x : Str} (h : Tp K H v (.str x)) : v = .str x := by cases h; rfl
theorem tp_bl {v : V} {x : Bool} (h : Tp K H v (.bool x)) : v = .bl x := by cases h; rfl
theorem tp_non {v : V} (h : Tp K H v .none) : v = .non := by cases h; rfl
theorem tp_t {v : V} {ds : List D} (h : Tp K H v (.tuple ds)) : ∃ q xs, v = .ref q ∧ SqT K H q xs ∧ TpAll K H xs ds := by
  cases h with
  | tup hs ha => exact ⟨_, _, rfl, hs, ha⟩
theorem tpa_c {vs : List V} {d : D} {ds : List D} (h : TpAll K H vs (d :: ds)) : ∃ v r, vs = v :: r ∧ Tp K H v d ∧ TpAll K H r ds := by
  cases h with
  | cons h a => exact ⟨_, _, rfl, h, a⟩
theorem tpa_n {vs : List V} (h : TpAll K H vs []) : vs = [] := by cases h; rfl
theorem tp_0 {v : V} {k : Str} (h : Tp K H v (tup k [])) : ∃ q, v = .ref q ∧ SqT K H q [.str k] := by
  obtain ⟨q, r, rfl, hs, ha⟩ := tp_head h
  cases tpa_n ha
  exact ⟨q, rfl, hs⟩
theorem tp_1 {v : V} {k : Str} {a : D} (h : Tp K H v (tup k [a])) : ∃ q x, v = .ref q ∧ SqT K H q [.str k, x] ∧ Tp K H x a := by
  obtain ⟨q, r, rfl, hs, ha⟩ := tp_head h
  obtain ⟨x, r, rfl, h1, ha⟩ := tpa_c ha
  cases tpa_n ha
  exact ⟨q, x, rfl, hs, h1⟩
theorem tp_2 {v : V} {k : Str} {a b : D} (h : Tp K H v (tup k [a, b])) : ∃ q x y, v = .ref q ∧ SqT K H q [.str k, x, y] ∧ Tp K H x a ∧ Tp K H y b := by
  obtain ⟨q, r, rfl, hs, ha⟩ := tp_head h
  obtain ⟨x, r, rfl, h1, ha⟩ := tpa_c ha
  obtain ⟨y, r, rfl, h2, ha⟩ := tpa_c ha
  cases tpa_n ha
  exact ⟨q, x, y, rfl, hs, h1, h2⟩
theorem tp_3 {v : V} {k : Str} {a b c : D} (h : Tp K H v (tup k [a, b, c])) : ∃ q x y z, v = .ref q ∧ SqT K H q [.str k, x, y, z] ∧ Tp K H x a ∧ Tp K H y b ∧ Tp K H z c := by
  obtain ⟨q, r, rfl, hs, ha⟩ := tp_head h
  obtain ⟨x, r, rfl, h1, ha⟩ := tpa_c ha
  obtain ⟨y, r, rfl, h2, ha⟩ := tpa_c ha
  obtain ⟨z, r, rfl, h3, ha⟩ := tpa_c ha
  cases tpa_n ha
  exact ⟨q, x, y, z, rfl, hs, h1, h2, h3⟩
theorem tp_4 {v : V} {k : Str} {a b c d : D} (h : Tp K H v (tup k [a, b, c, d])) : ∃ q x y z u, v = .ref q ∧ SqT K H q [.str k, x, y, z, u] ∧ Tp K H x a ∧ Tp K H y b ∧ Tp K H z c ∧ Tp K H u d := by
  obtain ⟨q, r, rfl, hs, ha⟩ := tp_head h
  obtain ⟨x, r, rfl, h1, ha⟩ := tpa_c ha
  obtain ⟨y, r, rfl, h2, ha⟩ := tpa_c ha
  obtain ⟨z, r, rfl, h3, ha⟩ := tpa_c ha
  obtain ⟨u, r, rfl, h4, ha⟩ := tpa_c ha
  cases tpa_n ha
  exact ⟨q, x, y, z, u, rfl, hs, h1, h2, h3, h4⟩
theorem tp_5 {v : V} {k : Str} {a b c d e : D} (h : Tp K H v (tup k [a, b, c, d, e])) : ∃ q x y z u t, v = .ref q ∧ SqT K H q [.str k, x, y, z, u, t] ∧ Tp K H x a ∧ Tp K H y b ∧ Tp K H z c ∧ Tp K H u d ∧ Tp K H t e := by
  obtain ⟨q, r, rfl, hs, ha⟩ := tp_head h
  obtain ⟨x, r, rfl, h1, ha⟩ := tpa_c ha
  obtain ⟨y, r, rfl, h2, ha⟩ := tpa_c ha
  obtain ⟨z, r, rfl, h3, ha⟩ := tpa_c ha
  obtain ⟨u, r, rfl, h4, ha⟩ := tpa_c ha
  obtain ⟨t, r, rfl, h5, ha⟩ := tpa_c ha
  cases tpa_n ha
  exact ⟨q, x, y, z, u, t, rfl, hs, h1, h2, h3, h4, h5⟩
end
/-- the law's writing defs, where they stand -/
structure TW (K : PySem.W.Frag) (mg : Str → Option Value) (a : Nat → Addr) (d : Nat → FuncData) : Prop where
  f_law_inner : Fun K "_law_inner" "_law_inner" sInner (a 0) (d 0)
  b_law_inner : Binds K (d 0) ["term", "at"] []
  g_law_inner : mg "_law_inner" = some (.ref (a 0))
  f_law_list : Fun K "_law_list" "_law_list" sList (a 1) (d 1)
  b_law_list : Binds K (d 1) ["terms", "at"] []
  g_law_list : mg "_law_list" = some (.ref (a 1))
  f_law_write : Fun K "_law_write" "_law_write" sWrite (a 2) (d 2)
  b_law_write : Binds K (d 2) ["term", "at"] []
  g_law_write : mg "_law_write" = some (.ref (a 2))
  f_law_between : Fun K "_law_between" "_law_between" sBetween (a 3) (d 3)
  b_law_between : Binds K (d 3) ["term", "at"] []
  g_law_between : mg "_law_between" = some (.ref (a 3))
  f_law_map : Fun K "_law_map" "_law_map" sMap (a 4) (d 4)
  b_law_map : Binds K (d 4) ["term", "at"] []
  g_law_map : mg "_law_map" = some (.ref (a 4))
  f_law_suffixed : Fun K "_law_suffixed" "_law_suffixed" sSuffixed (a 5) (d 5)
  b_law_suffixed : Binds K (d 5) ["term", "at"] []
  g_law_suffixed : mg "_law_suffixed" = some (.ref (a 5))
  f_law_body : Fun K "_law_body" "_law_body" sBody (a 6) (d 6)
  b_law_body : Binds K (d 6) ["term", "at", "names"] []
  g_law_body : mg "_law_body" = some (.ref (a 6))
  f_law_block_text : Fun K "_law_block_text" "_law_block_text" sBlockText (a 7) (d 7)
  b_law_block_text : Binds K (d 7) ["block", "at"] []
  g_law_block_text : mg "_law_block_text" = some (.ref (a 7))
  f_law_items : Fun K "_law_items" "_law_items" sItems (a 8) (d 8)
  b_law_items : Binds K (d 8) ["items", "at"] []
  g_law_items : mg "_law_items" = some (.ref (a 8))
  f_law_item_text : Fun K "_law_item_text" "_law_item_text" sItemText (a 9) (d 9)
  b_law_item_text : Binds K (d 9) ["item", "at"] []
  g_law_item_text : mg "_law_item_text" = some (.ref (a 9))
  f_law_member_text : Fun K "_law_member_text" "_law_member_text" sMemberText (a 10) (d 10)
  b_law_member_text : Binds K (d 10) ["member", "at"] []
  g_law_member_text : mg "_law_member_text" = some (.ref (a 10))
  f_law_statement_text : Fun K "_law_statement_text" "_law_statement_text" sStatementText (a 11) (d 11)
  b_law_statement_text : Binds K (d 11) ["term", "at"] []
  g_law_statement_text : mg "_law_statement_text" = some (.ref (a 11))
  f_law_compound_text : Fun K "_law_compound_text" "_law_compound_text" sCompoundText (a 12) (d 12)
  b_law_compound_text : Binds K (d 12) ["term", "at"] []
  g_law_compound_text : mg "_law_compound_text" = some (.ref (a 12))
end My
namespace My
open PySem L2 SX
open C8 (pss_cut tCut cutS_slice pe_gc)
section
variable {P : Program} {w : World} {K : PySem.W.Frag} {mg : Str → Option Value} {base : Heap} {a : Nat → Addr} {d : Nat → FuncData}
theorem eqV_strC (x y : Str) : eqV (.str x) (.str y) = (y == x) := BEq.comm
theorem scInner : FnScope ["term", "at", "told"] ["term", "at"] (defScope sInner) := ⟨rfl, rfl, rfl, by decide +kernel, rfl, by decide +kernel, by decide +kernel⟩
/-- one of the terms without parentheses -/
theorem ok_inner {R : Rl} {k : Nat} (L : TW K mg a d) (B : Bl mg) (hk : ∀ {a d b at_ s d'}, R a d b at_ s d' → ∃ k fs, d = tup k fs) (G_law_write : FnOk P w K mg base CX0 k (a 2) (d 2) ["term", "at"] (spW K R)) : FnOk P w K mg base CX0 (k + 1) (a 0) (d 0) ["term", "at"] (spW K (InnW R)) := by
  refine L.f_law_inner.ok scInner spW_len (fun cdv A outer s H vs Q E hr h => ?_)
  obtain ⟨v, d0, a0, b0, at_, s0, d0', rfl, hv, w, hl, q⟩ := h
  refine ⟨_, pss_cons (ps_if (pt_cmpR op_in_seq (pe_ix ix_tup (pv 0) pe_int (fun _ _ => rfl)) (pe_tup (pa_cons pe_str (pa_cons pe_str (pa_cons pe_str (pa_cons pe_str (pa_cons pe_str pa_nil)))))) (by rfl))
        (pss_one (ps_ret (pe_call G_law_write (hr.mono (by omega)) (by rfl) L.g_law_write L.f_law_write.kp L.b_law_write .nil pass0 (pa_cons (pv 0) (pa_cons (pv 1) pa_nil)))))
        pss_nil)
      (pss_cons (ps_set (i := 2) scInner.nd rfl (.inl rfl) (pe_call G_law_write (hr.mono (by omega)) (by rfl) L.g_law_write L.f_law_write.kp L.b_law_write .nil pass0 (pa_cons (pv 0) (pa_cons (pe_op op_add (pv 1) pe_int) pa_nil))))
      (pss_one (ps_ret (pe_lst (pa_cons (pe_op op_catE (pe_op op_catE (pe_lit [40] (by decide +kernel)) (pe_ix ix_list (pv 2) pe_int (fun _ _ => rfl))) (pe_lit [41] (by decide +kernel))) (pa_cons (pe_ix ix_list (pv 2) pe_int (fun _ _ => rfl)) pa_nil)))))), ?_⟩
  have hw : ∃ k fs, d0 = tup k fs := by
    rcases w with ⟨_, w⟩ | ⟨_, t, rfl, w⟩
    · exact hk w
    · exact hk w
  obtain ⟨kd, fs, rfl⟩ := hw
  obtain ⟨q0, r, rfl, hs, ha⟩ := tp_head hv
  have hv0 := hv
  refine ⟨_, rfl, _, _, _, (.str kd), rfl, rfl, hs, atI_zero, (by show 5 ≤ sizeLine; decide), fun y1 n1 => ?_⟩
  have ein : inV (.str kd) [.str "name", .str "int", .str "text", .str "null", .str "bool"] = isLf (tup kd fs) := by
    show _ = leafK kd
    unfold inV leafK
    simp only [List.any_cons, List.any_nil, Bool.or_false, eqV_strC]
    ac_rfl
  refine ⟨_, _, rfl, .inr (.inl (.inl upd_same)), rfl, rfl, _, rfl, ?_⟩
  rcases w with ⟨hlf, w⟩ | ⟨hlf, t, rfl, w⟩
  · refine ite2 (fun _ => ?_) (fun e => absurd (ein.trans hlf) e)
    refine ⟨_, rfl, _, rfl, _, _, _, _, _, _, _, rfl, tp_same (same_upd n1) hv0, w, hl, fun H2 y2 v2 m2 t2 h2 => ?_⟩
    exact q _ _ _ (Same.tr (same_upd n1) m2) t2 h2
  · refine ite2 (fun e => absurd (e.symm.trans (ein.trans hlf)) (by decide)) (fun _ => ?_)
    refine ⟨_, rfl, _, rfl, _, _, rfl, rfl, _, _, _, _, _, _, _, rfl, tp_same (same_upd n1) hv0, w, (by simp only [List.length_append, List.length_cons, List.length_nil, LIM_eq] at hl ⊢; omega), fun H2 y2 v2 m2 t2 h2 => ?_⟩
    refine ⟨_, rfl, _, _, _, (.str (S t)), rfl, rfl, SqL.of t2, rfl, _, _, _, rfl, rfl, rfl, (by simp only [List.length_append, List.length_cons, List.length_nil, LIM_eq] at hl ⊢; omega), _, _, _, rfl, rfl, rfl, (by simp only [List.length_append, List.length_cons, List.length_nil, LIM_eq] at hl ⊢; omega), _, rfl, _, _, _, v2, rfl, rfl, SqL.of t2, rfl, (by show 2 ≤ sizeLine; decide), fun y3 n3 => ?_⟩
    exact q _ _ _ (Same.ly (Same.tr (same_upd n1) m2) n3) upd_same (tp_same (same_upd n3) h2)
/-! ### step by step -/
end
def Steps (n : Nat) (init full : List Nat) (f : Nat → List Nat → List Nat → Prop) : Prop := ∃ T : Nat → List Nat, T 0 = init ∧ T n = full ∧ (∀ i, i < n → f i (T i) (T (i + 1))) ∧ ∀ i, i ≤ n → (T i).length ≤ full.length
theorem steps_nil {s : List Nat} {f : Nat → List Nat → List Nat → Prop} : Steps 0 s s f := ⟨fun _ => s, rfl, rfl, fun i h => by omega, fun i h => Nat.le_refl _⟩
theorem steps_snoc {n : Nat} {i0 s s' : List Nat} {f g : Nat → List Nat → List Nat → Prop} (h : Steps n i0 s f) (hf : ∀ i x y, i < n → f i x y → g i x y) (hs : g n s s') (hl : s.length ≤ s'.length) : Steps (n + 1) i0 s' g := by
  obtain ⟨T, h0, h1, h2, h3⟩ := h
  refine ⟨fun i => if i ≤ n then T i else s', ?_, ?_, fun i hi => ?_, fun i hi => ?_⟩
  · show (if 0 ≤ n then T 0 else s') = i0
    rw [if_pos (Nat.zero_le _), h0]
  · show (if n + 1 ≤ n then T (n + 1) else s') = s'
    rw [if_neg (by omega)]
  · show g i (if i ≤ n then T i else s') (if i + 1 ≤ n then T (i + 1) else s')
    by_cases e : i = n
    · subst e
      rw [if_pos (Nat.le_refl _), if_neg (by omega), h1]
      exact hs
    · rw [if_pos (by omega), if_pos (by omega)]
      exact hf _ _ _ (by omega) (h2 i (by omega))
  · show (if i ≤ n then T i else s').length ≤ s'.length
    by_cases e : i ≤ n
    · rw [if_pos e]
      exact Nat.le_trans (h3 i e) hl
    · rw [if_neg e]
      exact Nat.le_refl _
theorem get_app {α : Type} {xs : List α} {y z : α} {i : Nat} (h : xs[i]? = some z) : (xs ++ [y])[i]? = some z := by
  have hi := (List.getElem?_eq_some_iff.mp h).1
  rw [List.getElem?_append_left hi]
  exact h
theorem get_end {α : Type} {xs : List α} {y : α} {n : Nat} (h : xs.length = n) : (xs ++ [y])[n]? = some y := by
  subst h
  rw [List.getElem?_append_right (Nat.le_refl _), Nat.sub_self]
  rfl
def sepAt (sep : List Nat) (i : Nat) : List Nat := if i = 0 then [] else sep
def lwF (E : Rl) (sep : List Nat) (at_ : Int) (ds ds' : List D) : Nat → List Nat → List Nat → Prop := fun i x y => ∃ d d' b c t, ds[i]? = some d ∧ ds'[i]? = some d' ∧ E b d c (at_ + len (x ++ sepAt sep i)) t d' ∧ y = x ++ sepAt sep i ++ t
theorem lw_steps {E : Rl} {sep : List Nat} {a b at_ : Int} {ds ds' : List D} {s : List Nat} (w : LW E sep a ds b at_ s ds') : ds'.length = ds.length ∧ Steps ds.length [] s (lwF E sep at_ ds ds') := by
  induction w with
  | nil => exact ⟨rfl, steps_nil⟩
  | @snoc ds b at_ s ds' d c t d' sp w hsp he ih =>
    obtain ⟨hl, st⟩ := ih
    have esp : sp = sepAt sep ds.length := by
      rw [hsp]
      unfold sepAt
      cases ds with
      | nil => rfl
      | cons z r => rfl
    refine ⟨by rw [List.length_append, List.length_append, hl]; rfl, ?_⟩
    rw [List.length_append]
    refine steps_snoc st (fun i x y hi => ?_) ⟨d, d', b, c, t, get_end rfl, get_end hl, ?_, ?_⟩ (by rw [List.append_assoc, List.length_append]; omega)
    · rintro ⟨e, e', b1, c1, t1, h1, h2, h3, h4⟩
      exact ⟨e, e', b1, c1, t1, get_app h1, get_app h2, h3, h4⟩
    · rw [← esp]
      exact he
    · rw [← esp]
def iwF (E : Rl) (suf : List Nat) (at_ : Int) (ds ds' : List D) : Nat → List Nat → List Nat → Prop := fun i x y => ∃ d d' b c t, ds[i]? = some d ∧ ds'[i]? = some d' ∧ E b d c (at_ + len x) t d' ∧ y = x ++ t ++ suf
theorem iw_steps {E : Rl} {suf : List Nat} {a b at_ : Int} {ds ds' : List D} {s : List Nat} (w : IW E suf a ds b at_ s ds') : ds'.length = ds.length ∧ Steps ds.length [] s (iwF E suf at_ ds ds') := by
  induction w with
  | nil => exact ⟨rfl, steps_nil⟩
  | @snoc ds b at_ s ds' d c t d' w he ih =>
    obtain ⟨hl, st⟩ := ih
    refine ⟨by rw [List.length_append, List.length_append, hl]; rfl, ?_⟩
    rw [List.length_append]
    refine steps_snoc st (fun i x y hi => ?_) ⟨d, d', b, c, t, get_end rfl, get_end hl, he, rfl⟩ (by rw [List.append_assoc, List.length_append]; omega)
    rintro ⟨e, e', b1, c1, t1, h1, h2, h3, h4⟩
    exact ⟨e, e', b1, c1, t1, get_app h1, get_app h2, h3, h4⟩
def pwF (E : Rl) (at_ : Int) (ds ds' : List D) : Nat → List Nat → List Nat → Prop := fun i x y => ∃ k v k' v' b c e t u, ds[i]? = some (.tuple [k, v]) ∧ ds'[i]? = some (.tuple [k', v']) ∧ E b k c (at_ + len (x ++ sepAt [44] i)) t k' ∧
  E c v e (at_ + len (x ++ sepAt [44] i ++ t ++ [58])) u v' ∧ y = x ++ sepAt [44] i ++ t ++ [58] ++ u
theorem pw_steps {E : Rl} {a b at_ : Int} {ds ds' : List D} {s : List Nat} (w : PW2 E a ds b at_ s ds') : ds'.length = ds.length ∧ Steps ds.length [123] s (pwF E at_ ds ds') := by
  induction w with
  | nil => exact ⟨rfl, steps_nil⟩
  | @snoc ds b at_ s ds' k c t k' v e u v' sp w hsp he hv ih =>
    obtain ⟨hl, st⟩ := ih
    have esp : sp = sepAt [44] ds.length := by
      rw [hsp]
      unfold sepAt
      cases ds with
      | nil => rfl
      | cons z r => rfl
    refine ⟨by rw [List.length_append, List.length_append, hl]; rfl, ?_⟩
    rw [List.length_append]
    refine steps_snoc st (fun i x y hi => ?_) ⟨k, v, k', v', b, c, e, t, u, get_end rfl, get_end hl, ?_, ?_, ?_⟩ (by simp only [List.append_assoc, List.length_append]; omega)
    · rintro ⟨k1, v1, k1', v1', b1, c1, e1, t1, u1, h1, h2, h3, h4, h5⟩
      exact ⟨k1, v1, k1', v1', b1, c1, e1, t1, u1, get_app h1, get_app h2, h3, h4, h5⟩
    · rw [← esp]
      exact he
    · rw [← esp]
      exact hv
    · rw [← esp]
def mwF (B : Rl) (at_ : Int) (ds ds' : List D) : Nat → List Nat → List Nat → Prop := fun i x y => ∃ m d d' b c t, m ∈ [cs "init", cs "x", cs "size"] ∧ ds[i]? = some (.tuple [.str (S m), d]) ∧ ds'[i]? = some (.tuple [.str (S m), d']) ∧
  FunW B [cs "this"] [] (at_ + len x) b d c (at_ + len x + len m) t d' ∧ y = x ++ m ++ t
theorem mw_steps {B : Rl} {pre : List Nat} {a b at_ : Int} {ds ds' : List D} {s : List Nat} (w : MtW B pre a ds b at_ s ds') : ds'.length = ds.length ∧ Steps ds.length pre s (mwF B at_ ds ds') := by
  induction w with
  | nil => exact ⟨rfl, steps_nil⟩
  | @snoc ds b at_ s ds' m d c t d' hm w he ih =>
    obtain ⟨hl, st⟩ := ih
    refine ⟨by rw [List.length_append, List.length_append, hl]; rfl, ?_⟩
    rw [List.length_append]
    refine steps_snoc st (fun i x y hi => ?_) ⟨m, d, d', b, c, t, hm, get_end rfl, get_end hl, he, rfl⟩ (by rw [List.append_assoc, List.length_append]; omega)
    rintro ⟨m1, e, e', b1, c1, t1, h0, h1, h2, h3, h4⟩
    exact ⟨m1, e, e', b1, c1, t1, h0, get_app h1, get_app h2, h3, h4⟩
/-- the item at a place -/
theorem tpa_at {K : PySem.W.Frag} {H : Hp} : ∀ {vs : List V} {ds : List D} {i : Nat} {d : D}, TpAll K H vs ds → ds[i]? = some d → ∃ v, vs[i]? = some v ∧ Tp K H v d
  | _, _, 0, _, .cons h _, e => ⟨_, rfl, by cases e; exact h⟩
  | _, _, i + 1, _, .cons _ a, e => tpa_at (i := i) a e
theorem take_snoc {α : Type} {xs : List α} {x : α} {i : Nat} (h : xs[i]? = some x) : xs.take (i + 1) = xs.take i ++ [x] := by
  have hi := List.getElem?_eq_some_iff.mp h
  rw [List.take_succ, h]
  rfl
/-! ### _law_list -/
def LsR (E : Rl) : Rl := fun a d b at_ s d' => ∃ ds ds', d = .tuple ds ∧ d' = .tuple ds' ∧ ds.length ≤ 3 ∧ LW E (cs " ,") a ds b at_ s ds'
section
variable {P : Program} {w : World} {K : PySem.W.Frag} {mg : Str → Option Value} {base : Heap} {a : Nat → Addr} {d : Nat → FuncData}
theorem scList : FnScope ["terms", "at", "text", "found", "k", "told"] ["terms", "at"] (defScope sList) := ⟨rfl, rfl, rfl, by decide +kernel, rfl, by decide +kernel, by decide +kernel⟩
theorem ok_list {R : Rl} {k : Nat} (L : TW K mg a d) (B : Bl mg) (G_law_write : FnOk P w K mg base CX0 k (a 2) (d 2) ["term", "at"] (spW K R)) : FnOk P w K mg base CX0 (k + 1) (a 1) (d 1) ["terms", "at"] (spW K (LsR R)) := by
  refine L.f_law_list.ok scList spW_len (fun cdv A outer s H vs Q E hr h => ?_)
  obtain ⟨v, d0, a0, b0, at_, s0, d0', rfl, hv, w, hl, q⟩ := h
  refine ⟨_, pss_cons (ps_set (i := 2) scList.nd rfl (.inl rfl) (pe_lit [] (by decide +kernel)))
      (pss_cons (ps_set (i := 3) scList.nd rfl (.inl rfl) (pe_lst pa_nil))
      (pss_cons (ps_for PassesOwn.never rfl (pi_range1 (by rfl) B.range (pa_cons (pe_callB call_len_seq (by rfl) B.len PySem.boot_len (pa_cons (pv 0) pa_nil)) pa_nil)) (pg_name (i := 4) scList.nd rfl (.inl rfl))
        (pss_cut (ps_if (pt_cmpR op_gt (pv 4) pe_int (nomark _))
          (pss_one (ps_set (i := 2) scList.nd rfl (.inl rfl) (pe_op op_catE (pv 2) (pe_lit (cs " ,") (by decide +kernel)))))
          pss_nil)
        (pss_cons (ps_set (i := 5) scList.nd rfl (.inl rfl) (pe_call G_law_write (hr.mono (by omega)) (by rfl) L.g_law_write L.f_law_write.kp L.b_law_write .nil pass0 (pa_cons (pe_ix ix_tup (pv 0) (pv 4) (fun _ _ => rfl)) (pa_cons (pe_op op_add (pv 1) (pe_callB call_lenE (by rfl) B.len PySem.boot_len (pa_cons (pv 2) pa_nil))) pa_nil))))
        (pss_cons (ps_set (i := 2) scList.nd rfl (.inl rfl) (pe_op op_catE (pv 2) (pe_ix ix_list (pv 5) pe_int (fun _ _ => rfl))))
        (pss_one (ps_expr (pe_bm PySem.F.plainAttrs_list PySem.F.slot_list_append PySem.F.type_list_append mt_append (pv 3) (pa_cons (pe_ix ix_list (pv 5) pe_int (fun _ _ => rfl)) pa_nil))))))))
      (pss_one (ps_ret (pe_lst (pa_cons (pv 2) (pa_cons (pe_callTy call_tuple_of (by rfl) B.tuple (by decide +kernel) (pa_cons (pv 3) pa_nil)) pa_nil))))))), ?_⟩
  obtain ⟨ds, ds', rfl, rfl, hn, w⟩ := w
  obtain ⟨q0, xs, rfl, hs, hx⟩ := tp_t hv
  obtain ⟨hlen, T, T0, Tn, Tf, Tl⟩ := lw_steps w
  have hxl := tpa_len hx
  refine ⟨Nat.zero_le _, fun l nl => ?_⟩
  refine ⟨_, rfl, q0, xs, rfl, .inr (sqt_same (same_upd nl) hs), _, rfl, by omega, by omega, for_range (n := ((xs.length : Nat) : Int).toNat) (fun i σ H' => ∃ (y4 y5 : Option V) (fs : List V), σ = [some (.ref q0), some (.int at_), some (.str (S (T i))), some (.ref l), y4, y5] ∧ Same H H' ∧ H' l = some (.lst fs) ∧ fs.length = i ∧ TpAll K H' fs (ds'.take i))
    ⟨none, none, [], by rw [T0]; rfl, same_upd nl, upd_same, rfl, .nil⟩ ?_ ?_⟩
  · rintro i σ H' hi ⟨y4, y5, fs, rfl, sm, hf, hfl, hfa⟩
    have hi' : i < ds.length := by omega
    obtain ⟨dd, dd', b1, c1, t, e1, e2, e3, e4⟩ := Tf i hi'
    have hL := Tl (i + 1) (by omega)
    rw [e4] at hL
    have hl := Nat.le_trans hL hl
    obtain ⟨vv, ev, hvv⟩ := tpa_at hx e1
    refine ⟨fun σ' H2 => σ' = [some (.ref q0), some (.int at_), some (.str (S (T i ++ sepAt (cs " ,") i))), some (.ref l), some (.int (0 + (i : Int))), y5] ∧ H2 = H', ?_, ?_⟩
    · refine ⟨_, rfl, _, _, rfl, rfl, _, rfl, ite2 (fun e => ?_) (fun e => ?_)⟩
      · have hi0 : ¬ i = 0 := by
          have := of_decide_eq_true e
          omega
        refine ⟨_, rfl, _, _, _, rfl, rfl, rfl, ?_, ?_, rfl⟩
        · unfold sepAt at hl
          rw [if_neg hi0] at hl
          simp only [List.length_append, List.length_cons, List.length_nil, LIM_eq] at hl ⊢
          omega
        · unfold sepAt
          rw [if_neg hi0]
          rfl
      · have hi0 : i = 0 := by
          have := of_decide_eq_false (Bool.eq_false_iff.mpr e)
          omega
        refine ⟨?_, rfl⟩
        unfold sepAt
        rw [if_pos hi0, List.append_nil]
        rfl
    rintro σ' H2 ⟨rfl, rfl⟩
    have hq := sqt_same sm hs
    refine ⟨_, rfl, _, rfl, q0, xs, _, vv, rfl, rfl, hq, at_ofN (j := i) (by omega) ev, _, rfl, _, rfl, _, _, rfl, (by simp only [List.length_append, List.length_cons, List.length_nil, LIM_eq] at hl ⊢; omega), rfl, _, _, rfl, rfl, ?_⟩
    refine ⟨_, _, _, _, _, _, _, rfl, tp_same sm hvv, e3, (by simp only [List.length_append, List.length_cons, List.length_nil, LIM_eq] at hl ⊢; omega), fun H3 y3 v3 m3 t3 h3 => ?_⟩
    refine ⟨_, rfl, _, rfl, _, _, _, (.str (S t)), rfl, rfl, SqL.of t3, rfl, _, _, _, rfl, rfl, rfl, (by simp only [List.length_append, List.length_cons, List.length_nil, LIM_eq] at hl ⊢; omega), ?_⟩
    have hf3 := m3 _ _ hf
    refine ⟨_, rfl, .inl ⟨rfl, _, SqL.of hf3⟩, _, rfl, _, _, _, v3, rfl, rfl, SqL.of t3, rfl, l, fs, _, rfl, rfl, hf3, (by rw [sizeLine_eq]; omega), _, _, fs ++ [v3], by rw [e4]; rfl, ?_, upd_same, by rw [List.length_append, hfl]; rfl, ?_⟩
    · exact fun x o e => by
        rw [upd_ne (fun z => by rw [z, nl] at e; cases e)]
        exact m3 _ _ (sm _ _ e)
    · rw [take_snoc e2]
      exact tpa_lst hf3 (tpa_snoc (tpa_same m3 hfa) h3)
  · rintro σ H' ⟨y4, y5, fs, rfl, sm, hf, hfl, hfa⟩
    have eN : ((xs.length : Nat) : Int).toNat = ds.length := by omega
    rw [eN] at hfl hfa
    rw [← hlen, List.take_length] at hfa
    refine ⟨_, rfl, _, rfl, l, fs, rfl, .inl ⟨SqL.of hf, fun y ny => ⟨(by show 2 ≤ sizeLine; decide), fun z nz => ?_⟩⟩⟩
    rw [eN, Tn]
    exact q _ _ _ (Same.ly (Same.ly sm ny) nz) upd_same (tp_same (same_upd nz) (tp_new ny hfa))
end
end My
namespace My
open PySem L2 SX
open C8 (pss_cut tCut cutS_slice pe_gc)
section
variable {P : Program} {w : World} {K : PySem.W.Frag} {mg : Str → Option Value} {base : Heap} {a : Nat → Addr} {d : Nat → FuncData}
/-! ### _law_map -/
theorem scMap : FnScope ["term", "at", "text", "pairs", "k", "key", "told"] ["term", "at"] (defScope sMap) := ⟨rfl, rfl, rfl, by decide +kernel, rfl, by decide +kernel, by decide +kernel⟩
def MpR (E : Rl) : Rl := fun a d b at_ s d' => ∃ ps ps' s0, d = tup "map" [.int 0, .tuple ps] ∧ d' = tup "map" [.int at_, .tuple ps'] ∧ ps.length ≤ 2 ∧ PW2 E a ps b at_ s0 ps' ∧ s = s0 ++ [125]
theorem ok_map {R : Rl} {k : Nat} (L : TW K mg a d) (B : Bl mg) (G_law_write : FnOk P w K mg base CX0 k (a 2) (d 2) ["term", "at"] (spW K R)) : FnOk P w K mg base CX0 (k + 1) (a 4) (d 4) ["term", "at"] (spW K (MpR R)) := by
  refine L.f_law_map.ok scMap spW_len (fun cdv A outer s H vs Q E hr h => ?_)
  obtain ⟨v, d0, a0, b0, at_, s0, d0', rfl, hv, w, hl, q⟩ := h
  refine ⟨_, pss_cons (ps_set (i := 2) scMap.nd rfl (.inl rfl) (pe_lit [123] (by decide +kernel)))
      (pss_cons (ps_set (i := 3) scMap.nd rfl (.inl rfl) (pe_lst pa_nil))
      (pss_cons (ps_for PassesOwn.never rfl (pi_range1 (by rfl) B.range (pa_cons (pe_callB call_len_seq (by rfl) B.len PySem.boot_len (pa_cons (pe_ix ix_tup (pv 0) pe_int (fun _ _ => rfl)) pa_nil)) pa_nil)) (pg_name (i := 4) scMap.nd rfl (.inl rfl))
        (pss_cut (ps_if (pt_cmpR op_gt (pv 4) pe_int (nomark _))
          (pss_one (ps_set (i := 2) scMap.nd rfl (.inl rfl) (pe_op op_catE (pv 2) (pe_lit [44] (by decide +kernel)))))
          pss_nil)
        (pss_cons (ps_set (i := 5) scMap.nd rfl (.inl rfl) (pe_call G_law_write (hr.mono (by omega)) (by rfl) L.g_law_write L.f_law_write.kp L.b_law_write .nil pass0 (pa_cons (pe_ix ix_tup (pe_ix ix_tup (pe_ix ix_tup (pv 0) pe_int (fun _ _ => rfl)) (pv 4) (fun _ _ => rfl)) pe_int (fun _ _ => rfl)) (pa_cons (pe_op op_add (pv 1) (pe_callB call_lenE (by rfl) B.len PySem.boot_len (pa_cons (pv 2) pa_nil))) pa_nil))))
        (pss_cons (ps_set (i := 2) scMap.nd rfl (.inl rfl) (pe_op op_catE (pe_op op_catE (pv 2) (pe_ix ix_list (pv 5) pe_int (fun _ _ => rfl))) (pe_lit [58] (by decide +kernel))))
        (pss_cons (ps_set (i := 6) scMap.nd rfl (.inl rfl) (pe_call G_law_write (hr.mono (by omega)) (by rfl) L.g_law_write L.f_law_write.kp L.b_law_write .nil pass0 (pa_cons (pe_ix ix_tup (pe_ix ix_tup (pe_ix ix_tup (pv 0) pe_int (fun _ _ => rfl)) (pv 4) (fun _ _ => rfl)) pe_int (fun _ _ => rfl)) (pa_cons (pe_op op_add (pv 1) (pe_callB call_lenE (by rfl) B.len PySem.boot_len (pa_cons (pv 2) pa_nil))) pa_nil))))
        (pss_cons (ps_set (i := 2) scMap.nd rfl (.inl rfl) (pe_op op_catE (pv 2) (pe_ix ix_list (pv 6) pe_int (fun _ _ => rfl))))
        (pss_one (ps_expr (pe_bm PySem.F.plainAttrs_list PySem.F.slot_list_append PySem.F.type_list_append mt_append (pv 3) (pa_cons (pe_tup (pa_cons (pe_ix ix_list (pv 5) pe_int (fun _ _ => rfl)) (pa_cons (pe_ix ix_list (pv 6) pe_int (fun _ _ => rfl)) pa_nil))) pa_nil))))))))))
      (pss_one (ps_ret (pe_lst (pa_cons (pe_op op_catE (pv 2) (pe_lit [125] (by decide +kernel))) (pa_cons (pe_tup (pa_cons pe_str (pa_cons (pv 1) (pa_cons (pe_callTy call_tuple_of (by rfl) B.tuple (by decide +kernel) (pa_cons (pv 3) pa_nil)) pa_nil)))) pa_nil))))))), ?_⟩
  obtain ⟨ds, ds', s1, rfl, rfl, hn, w, rfl⟩ := w
  obtain ⟨q0, v1, v2, rfl, hs, h1, h2⟩ := tp_2 hv
  obtain ⟨qp, xs, rfl, hp, hx⟩ := tp_t h2
  obtain ⟨hlen, T, T0, Tn, Tf, Tl⟩ := pw_steps w
  have hxl := tpa_len hx
  refine ⟨Nat.zero_le _, fun l nl => ?_⟩
  refine ⟨_, rfl, q0, _, _, (.ref qp), rfl, rfl, sqt_same (same_upd nl) hs, rfl, qp, xs, rfl, .inr (sqt_same (same_upd nl) hp), _, rfl, by omega, by omega, for_range (n := ((xs.length : Nat) : Int).toNat) (fun i σ H' => ∃ (y4 y5 y6 : Option V) (fs : List V), σ = [some (.ref q0), some (.int at_), some (.str (S (T i))), some (.ref l), y4, y5, y6] ∧ Same H H' ∧ H' l = some (.lst fs) ∧ fs.length = i ∧ TpAll K H' fs (ds'.take i))
    ⟨none, none, none, [], by rw [T0]; rfl, same_upd nl, upd_same, rfl, .nil⟩ ?_ ?_⟩
  · rintro i σ H' hi ⟨y4, y5, y6, fs, rfl, sm, hf, hfl, hfa⟩
    have hi' : i < ds.length := by omega
    obtain ⟨dk, dv, dk', dv', b1, c1, e1', t, u, e1, e2, e3, e4, e5⟩ := Tf i hi'
    have hL := Tl (i + 1) (by omega)
    rw [e5] at hL
    have hl : (T i ++ sepAt [44] i ++ t ++ [58] ++ u).length ≤ LIM := by
      rw [List.length_append] at hl
      omega
    obtain ⟨vv, ev, hvv⟩ := tpa_at hx e1
    obtain ⟨qi, ys, rfl, hqi, hys⟩ := tp_t hvv
    obtain ⟨vk, ys, rfl, hvk, hys⟩ := tpa_c hys
    obtain ⟨vw, ys, rfl, hvw, hys⟩ := tpa_c hys
    cases tpa_n hys
    refine ⟨fun σ' H2 => σ' = [some (.ref q0), some (.int at_), some (.str (S (T i ++ sepAt [44] i))), some (.ref l), some (.int (0 + (i : Int))), y5, y6] ∧ H2 = H', ?_, ?_⟩
    · refine ⟨_, rfl, _, _, rfl, rfl, _, rfl, ite2 (fun e => ?_) (fun e => ?_)⟩
      · have hi0 : ¬ i = 0 := by
          have := of_decide_eq_true e
          omega
        refine ⟨_, rfl, _, _, _, rfl, rfl, rfl, ?_, ?_, rfl⟩
        · unfold sepAt at hl
          rw [if_neg hi0] at hl
          simp only [List.length_append, List.length_cons, List.length_nil, LIM_eq] at hl ⊢
          omega
        · unfold sepAt
          rw [if_neg hi0]
          rfl
      · have hi0 : i = 0 := by
          have := of_decide_eq_false (Bool.eq_false_iff.mpr e)
          omega
        refine ⟨?_, rfl⟩
        unfold sepAt
        rw [if_pos hi0, List.append_nil]
        rfl
    rintro σ' H2 ⟨rfl, rfl⟩
    have hq := sqt_same sm hs
    have hq2 := sqt_same sm hp
    have hq3 := sqt_same sm hqi
    refine ⟨_, rfl, q0, _, _, (.ref qp), rfl, rfl, hq, rfl, _, rfl, qp, xs, _, (.ref qi), rfl, rfl, hq2, at_ofN (j := i) (by omega) ev, qi, _, _, vk, rfl, rfl, hq3, rfl, _, rfl, _, rfl, _, _, rfl, (by simp only [List.length_append, List.length_cons, List.length_nil, LIM_eq] at hl ⊢; omega), rfl, _, _, rfl, rfl, ?_⟩
    refine ⟨_, _, _, _, _, _, _, rfl, tp_same sm hvk, e3, (by simp only [List.length_append, List.length_cons, List.length_nil, LIM_eq] at hl ⊢; omega), fun H3 y3 v3 m3 t3 h3 => ?_⟩
    refine ⟨_, rfl, _, rfl, _, _, _, (.str (S t)), rfl, rfl, SqL.of t3, rfl, _, _, _, rfl, rfl, rfl, (by simp only [List.length_append, List.length_cons, List.length_nil, LIM_eq] at hl ⊢; omega), _, _, _, rfl, rfl, rfl, (by simp only [List.length_append, List.length_cons, List.length_nil, LIM_eq] at hl ⊢; omega), ?_⟩
    replace hq := sqt_same m3 hq
    replace hq2 := sqt_same m3 hq2
    replace hq3 := sqt_same m3 hq3
    refine ⟨_, rfl, q0, _, _, (.ref qp), rfl, rfl, hq, rfl, _, rfl, qp, xs, _, (.ref qi), rfl, rfl, hq2, at_ofN (j := i) (by omega) ev, qi, _, _, vw, rfl, rfl, hq3, rfl, _, rfl, _, rfl, _, _, rfl, (by simp only [List.length_append, List.length_cons, List.length_nil, LIM_eq] at hl ⊢; omega), rfl, _, _, rfl, rfl, ?_⟩
    refine ⟨_, _, _, _, _, _, _, rfl, tp_same m3 (tp_same sm hvw), e4, (by simp only [List.length_append, List.length_cons, List.length_nil, LIM_eq] at hl ⊢; omega), fun H4 y4' v4 m4 t4 h4 => ?_⟩
    refine ⟨_, rfl, _, rfl, _, _, _, (.str (S u)), rfl, rfl, SqL.of t4, rfl, _, _, _, rfl, rfl, rfl, (by simp only [List.length_append, List.length_cons, List.length_nil, LIM_eq] at hl ⊢; omega), ?_⟩
    have hf4 := m4 _ _ (m3 _ _ hf)
    refine ⟨_, rfl, .inl ⟨rfl, _, SqL.of hf4⟩, _, rfl, _, _, _, v3, rfl, rfl, SqL.of (m4 _ _ t3), rfl, _, rfl, _, _, _, v4, rfl, rfl, SqL.of t4, rfl, (by show 2 ≤ sizeLine; decide), fun z nz => ?_⟩
    have hf5 := same_upd (o := HO.tup [v3, v4]) nz _ _ hf4
    refine ⟨l, fs, _, rfl, rfl, hf5, (by rw [sizeLine_eq]; omega), _, _, _, fs ++ [.ref z], by rw [e5]; rfl, ?_, upd_same, by rw [List.length_append, hfl]; rfl, ?_⟩
    · exact fun x o e => by
        rw [upd_ne (fun z => by rw [z, nl] at e; cases e)]
        exact same_upd nz _ _ (m4 _ _ (m3 _ _ (sm _ _ e)))
    · rw [take_snoc e2]
      exact tpa_lst hf5 (tpa_snoc (tpa_same (same_upd nz) (tpa_same m4 (tpa_same m3 hfa))) (tp_new nz (.cons (tp_same m4 h3) (.cons h4 .nil))))
  · rintro σ H' ⟨y4, y5, y6, fs, rfl, sm, hf, hfl, hfa⟩
    have eN : ((xs.length : Nat) : Int).toNat = ds.length := by omega
    rw [eN] at hfl hfa
    rw [← hlen, List.take_length] at hfa
    have el : (T ((xs.length : Nat) : Int).toNat ++ [125]).length ≤ 16777216 := by
      rw [eN, Tn]
      exact Nat.le_trans hl (by decide)
    refine ⟨_, rfl, _, _, _, rfl, rfl, rfl, el, _, rfl, _, rfl, l, fs, rfl, .inl ⟨SqL.of hf, fun y ny => ⟨(by show 3 ≤ sizeLine; decide), fun z nz => ⟨(by show 2 ≤ sizeLine; decide), fun z2 nz2 => ?_⟩⟩⟩⟩
    rw [eN, Tn]
    exact q _ _ _ (Same.ly (Same.ly (Same.ly sm ny) nz) nz2) upd_same (tp_same (same_upd nz2) (tp_new nz (.cons (.str _) (.cons (.int _) (.cons (tp_new ny hfa) .nil)))))
/-! ### _law_body -/
theorem joinN_eq : ∀ ns : List (List Nat), joinN ns = TL.joinL [44] ns
  | [] => rfl
  | [x] => rfl
  | x :: y :: r => by
    show x ++ [44] ++ joinN (y :: r) = _
    rw [joinN_eq (y :: r), List.append_assoc]
    rfl
theorem joinN_len : ∀ ns : List (List Nat), (ns.map List.length).sum + ns.length ≤ (joinN ns).length + 1
  | [] => by decide
  | [x] => by
    show x.length + 0 + 1 ≤ x.length + 1
    omega
  | x :: y :: r => by
    have := joinN_len (y :: r)
    show x.length + ((y :: r).map List.length).sum + ((y :: r).length + 1) ≤ (x ++ [44] ++ joinN (y :: r)).length + 1
    rw [List.length_append, List.length_append]
    show x.length + ((y :: r).map List.length).sum + ((y :: r).length + 1) ≤ x.length + 1 + (joinN (y :: r)).length + 1
    omega
theorem tpa_strs_inv {H : Hp} : ∀ (ns : List (List Nat)) {vs : List V}, TpAll K H vs (ns.map fun x => PyData.str (S x)) → vs = (ns.map S).map V.str
  | [], _, h => tpa_n h
  | x :: r, _, h => by
    obtain ⟨v, vs, rfl, h1, h2⟩ := tpa_c h
    rw [tp_str h1, tpa_strs_inv r h2]
    rfl
def spBody (K : PySem.W.Frag) (R : Rl) : Sp := fun vs H Q _ => ∃ (q : Addr) (x y z u vn : V) (at_ a b : Int) (ns : List (List Nat)) (body : D) (s : List Nat) (body' : D), vs = [.ref q, .int at_, vn] ∧ SqT K H q [.str "function", x, y, z, u] ∧ Tp K H u body ∧ Tp K H vn (strsD ns) ∧ R a body b (at_ + len (headN ns)) s body' ∧ (headN ns ++ s).length ≤ LIM ∧
  ∀ H' y v', Same H H' → H' y = some (.lst [.str (S (headN ns ++ s)), v']) → Tp K H' v' body' → Q (.ref y) H'
theorem scBody : FnScope ["term", "at", "names", "head", "told"] ["term", "at", "names"] (defScope sBody) := ⟨rfl, rfl, rfl, by decide +kernel, rfl, by decide +kernel, by decide +kernel⟩
theorem ok_body {R : Rl} {k : Nat} (L : TW K mg a d) (B : Bl mg) (G_law_block_text : FnOk P w K mg base CX0 k (a 7) (d 7) ["block", "at"] (spW K R)) : FnOk P w K mg base CX0 (k + 1) (a 6) (d 6) ["term", "at", "names"] (spBody K R) := by
  refine L.f_law_body.ok scBody (fun vs H Q E h => by obtain ⟨q, x, y, z, u, vn, at_, a, b, ns, body, s, body', rfl, _⟩ := h; rfl) (fun cdv A outer s H vs Q E hr h => ?_)
  obtain ⟨q0, x, y, z, u, vn, at_, a0, b0, ns, body, s0, body', rfl, hs, hu, hvn, w, hl, q⟩ := h
  refine ⟨_, pss_cons (ps_set (i := 3) scBody.nd rfl (.inl rfl) (pe_op op_catE (pe_op op_catE (pe_lit [40] (by decide +kernel)) (pe_join (pe_lit [44] (by decide +kernel)) (pe_callTy call_list_of (by rfl) B.list (by decide +kernel) (pa_cons (pv 2) pa_nil)))) (pe_lit [41] (by decide +kernel))))
      (pss_cons (ps_set (i := 4) scBody.nd rfl (.inl rfl) (pe_call G_law_block_text (hr.mono (by omega)) (by rfl) L.g_law_block_text L.f_law_block_text.kp L.b_law_block_text .nil pass0 (pa_cons (pe_ix ix_tup (pv 0) pe_int (fun _ _ => rfl)) (pa_cons (pe_op op_add (pv 1) (pe_callB call_lenE (by rfl) B.len PySem.boot_len (pa_cons (pv 3) pa_nil))) pa_nil))))
      (pss_one (ps_ret (pe_lst (pa_cons (pe_op op_catE (pv 3) (pe_ix ix_list (pv 4) pe_int (fun _ _ => rfl))) (pa_cons (pe_ix ix_list (pv 4) pe_int (fun _ _ => rfl)) pa_nil)))))), ?_⟩
  obtain ⟨qn, vs, rfl, hqn, hvs⟩ := tp_t hvn
  cases tpa_strs_inv ns hvs
  have jl := joinN_len ns
  have hh : (headN ns).length = (joinN ns).length + 2 := by
    unfold headN
    simp only [List.length_append, List.length_cons, List.length_nil]
  have hl2 := hl
  rw [List.length_append, LIM_eq] at hl2
  refine ⟨⟨_, rfl⟩, _, rfl, qn, _, rfl, .inr hqn, fun l nl => ?_⟩
  refine ⟨S [44], l, ns.map S, rfl, rfl, .inl (SqL.of upd_same), ?_, [40], joinN ns, _, rfl, ?_, rfl, ?_, _, _, headN ns, rfl, rfl, rfl, ?_, ?_⟩
  · rw [lens, S_len, List.length_map]
    show (ns.map List.length).sum + ns.length * 1 ≤ 16777216
    omega
  · rw [join_S, joinN_eq]
  · simp only [List.length_append, List.length_cons, List.length_nil]
    omega
  · omega
  refine ⟨_, rfl, q0, _, _, u, rfl, rfl, sqt_same (same_upd nl) hs, rfl, _, rfl, _, rfl, headN ns, _, rfl, by omega, rfl, _, _, rfl, rfl, ?_⟩
  refine ⟨_, _, _, _, _, _, _, rfl, tp_same (same_upd nl) hu, w, (by simp only [List.length_append, List.length_cons, List.length_nil, LIM_eq] at hl ⊢; omega), fun H2 y2 v2 m2 t2 h2 => ?_⟩
  refine ⟨_, rfl, _, rfl, _, _, _, (.str (S s0)), rfl, rfl, SqL.of t2, rfl, _, _, _, rfl, rfl, rfl, (by simp only [List.length_append, List.length_cons, List.length_nil, LIM_eq] at hl ⊢; omega), _, rfl, _, _, _, v2, rfl, rfl, SqL.of t2, rfl, (by show 2 ≤ sizeLine; decide), fun y3 n3 => ?_⟩
  exact q _ _ _ (Same.ly (Same.tr (same_upd nl) m2) n3) upd_same (tp_same (same_upd n3) h2)
/-! ### _law_block_text -/
theorem scBlockText : FnScope ["block", "at", "told"] ["block", "at"] (defScope sBlockText) := ⟨rfl, rfl, rfl, by decide +kernel, rfl, by decide +kernel, by decide +kernel⟩
def ItsR (It : Rl) : Rl := fun a d b at_ s d' => ∃ ds ds', d = .tuple ds ∧ d' = .tuple ds' ∧ ds.length ≤ 3 ∧ IW It [10] a ds b at_ s ds'
theorem ok_block_text {It : Rl} {k : Nat} (L : TW K mg a d) (B : Bl mg) (G_law_items : FnOk P w K mg base CX0 k (a 8) (d 8) ["items", "at"] (spW K (ItsR It))) : FnOk P w K mg base CX0 (k + 1) (a 7) (d 7) ["block", "at"] (spW K (BlF It)) := by
  refine L.f_law_block_text.ok scBlockText spW_len (fun cdv A outer s H vs Q E hr h => ?_)
  obtain ⟨v, d0, a0, b0, at_, s0, d0', rfl, hv, w, hl, q⟩ := h
  refine ⟨_, pss_cons (ps_set (i := 2) scBlockText.nd rfl (.inl rfl) (pe_call G_law_items (hr.mono (by omega)) (by rfl) L.g_law_items L.f_law_items.kp L.b_law_items .nil pass0 (pa_cons (pe_ix ix_tup (pv 0) pe_int (fun _ _ => rfl)) (pa_cons (pe_op op_add (pv 1) pe_int) pa_nil))))
      (pss_one (ps_ret (pe_lst (pa_cons (pe_op op_catE (pe_op op_catE (pe_lit [123] (by decide +kernel)) (pe_ix ix_list (pv 2) pe_int (fun _ _ => rfl))) (pe_lit [125] (by decide +kernel))) (pa_cons (pe_tup (pa_cons pe_str (pa_cons (pe_ix ix_list (pv 2) pe_int (fun _ _ => rfl)) pa_nil))) pa_nil))))), ?_⟩
  cases w with
  | @mk _ is _ _ s1 is' hn hg w =>
    obtain ⟨q0, x, rfl, hs, hx⟩ := tp_1 hv
    refine ⟨_, rfl, _, _, _, x, rfl, rfl, hs, rfl, _, rfl, _, _, rfl, rfl, _, _, _, _, _, _, _, rfl, hx, ⟨is, is', rfl, rfl, hn, w⟩, (by simp only [List.length_append, List.length_cons, List.length_nil, LIM_eq] at hl ⊢; omega), fun H1 y1 v1 m1 t1 h1 => ?_⟩
    replace hs := sqt_same m1 hs
    replace hx := tp_same m1 hx
    have sm2 := m1
    refine ⟨_, rfl, _, _, _, (.str (S s1)), rfl, rfl, (SqL.of t1), rfl, _, _, _, rfl, rfl, rfl, (by simp only [List.length_append, List.length_cons, List.length_nil, LIM_eq] at hl ⊢; omega), _, _, _, rfl, rfl, rfl, (by simp only [List.length_append, List.length_cons, List.length_nil, LIM_eq] at hl ⊢; omega), _, rfl, _, _, _, v1, rfl, rfl, (SqL.of t1), rfl, (by show 2 ≤ sizeLine; decide), fun y3 n3 => ?_⟩
    have tp3 := tp_new (K := K) (xs := [(.str "block"), v1]) n3 (.cons (.str _) (.cons h1 .nil))
    have ob3 := sqt_new (K := K) (xs := [(.str "block"), v1]) n3
    have m3 := same_upd (o := HO.tup [(.str "block"), v1]) n3
    replace hs := sqt_same m3 hs
    replace hx := tp_same m3 hx
    replace t1 := m3 _ _ t1
    replace h1 := tp_same m3 h1
    have sm4 := Same.tr sm2 m3
    refine ⟨(by show 2 ≤ sizeLine; decide), fun y5 n5 => ?_⟩
    exact q _ _ _ (Same.ly sm4 n5) upd_same (tp_same (same_upd n5) tp3)
end
end My
namespace My
open PySem L2 SX
open C8 (pss_cut tCut cutS_slice pe_gc)
def btK (k : Str) : Bool := k == "binary" || k == "both" || k == "either"
def sfK (k : Str) : Bool := k == "super" || k == "assign" || k == "call" || k == "index" || k == "set_index" || k == "field" || k == "invoke" || k == "set_field"
def BtR (E B : Rl) : Rl := fun a d b at_ s d' => ExF E B a d b at_ s d' ∧ btK (headS d) = true
def SfR (E B : Rl) : Rl := fun a d b at_ s d' => ExF E B a d b at_ s d' ∧ sfK (headS d) = true
theorem leaf_head {d : D} {at_ : Int} {s : List Nat} {d' : D} (w : LeafW d at_ s d') : ∃ k fs, d = tup k fs ∧ btK k = false ∧ sfK k = false := by
  cases w with
  | name _ => exact ⟨_, _, rfl, by decide +kernel, by decide +kernel⟩
  | int _ _ => exact ⟨_, _, rfl, by decide +kernel, by decide +kernel⟩
  | text _ => exact ⟨_, _, rfl, by decide +kernel, by decide +kernel⟩
  | null => exact ⟨_, _, rfl, by decide +kernel, by decide +kernel⟩
  | bool => exact ⟨_, _, rfl, by decide +kernel, by decide +kernel⟩
/-! ### _law_between -/
section
variable {P : Program} {w : World} {K : PySem.W.Frag} {mg : Str → Option Value} {base : Heap} {a : Nat → Addr} {d : Nat → FuncData}
theorem scBetween : FnScope ["term", "at", "left", "offset", "right", "sign"] ["term", "at"] (defScope sBetween) := ⟨rfl, rfl, rfl, by decide +kernel, rfl, by decide +kernel, by decide +kernel⟩
theorem ok_between {R S0 : Rl} {k : Nat} (L : TW K mg a d) (B : Bl mg) (G_law_inner : FnOk P w K mg base CX0 k (a 0) (d 0) ["term", "at"] (spW K (InnW R))) : FnOk P w K mg base CX0 (k + 1) (a 3) (d 3) ["term", "at"] (spW K (BtR R S0)) := by
  refine L.f_law_between.ok scBetween spW_len (fun cdv A outer s H vs Q E hr h => ?_)
  obtain ⟨v, d0, a0, b0, at_, s0, d0', rfl, hv, w, hl, q⟩ := h
  refine ⟨_, pss_cons (ps_if (pt_cmpR op_eq (pe_ix ix_tup (pv 0) pe_int (fun _ _ => rfl)) pe_str (nomark _))
        (pss_cons (ps_set (i := 2) scBetween.nd rfl (.inl rfl) (pe_call G_law_inner (hr.mono (by omega)) (by rfl) L.g_law_inner L.f_law_inner.kp L.b_law_inner .nil pass0 (pa_cons (pe_ix ix_tup (pv 0) pe_int (fun _ _ => rfl)) (pa_cons (pv 1) pa_nil))))
        (pss_cons (ps_set (i := 3) scBetween.nd rfl (.inl rfl) (pe_op op_add (pe_op op_add (pv 1) (pe_callB call_lenE (by rfl) B.len PySem.boot_len (pa_cons (pe_ix ix_list (pv 2) pe_int (fun _ _ => rfl)) pa_nil))) pe_int))
        (pss_cons (ps_set (i := 4) scBetween.nd rfl (.inl rfl) (pe_call G_law_inner (hr.mono (by omega)) (by rfl) L.g_law_inner L.f_law_inner.kp L.b_law_inner .nil pass0 (pa_cons (pe_ix ix_tup (pv 0) pe_int (fun _ _ => rfl)) (pa_cons (pe_op op_add (pe_op op_add (pv 3) (pe_callB call_lenE (by rfl) B.len PySem.boot_len (pa_cons (pe_ix ix_tup (pv 0) pe_int (fun _ _ => rfl)) pa_nil))) pe_int) pa_nil))))
        (pss_one (ps_ret (pe_lst (pa_cons (pe_op op_catE (pe_op op_catE (pe_op op_catE (pe_op op_catE (pe_ix ix_list (pv 2) pe_int (fun _ _ => rfl)) (pe_lit [32] (by decide +kernel))) (pe_ix ix_tup (pv 0) pe_int (fun _ _ => rfl))) (pe_lit [32] (by decide +kernel))) (pe_ix ix_list (pv 4) pe_int (fun _ _ => rfl))) (pa_cons (pe_tup (pa_cons pe_str (pa_cons (pv 3) (pa_cons (pe_ix ix_tup (pv 0) pe_int (fun _ _ => rfl)) (pa_cons (pe_ix ix_list (pv 2) pe_int (fun _ _ => rfl)) (pa_cons (pe_ix ix_list (pv 4) pe_int (fun _ _ => rfl)) pa_nil)))))) pa_nil))))))))
        pss_nil)
      (pss_cons (ps_set (i := 5) scBetween.nd rfl (.inl rfl) (pe_ix ix_list (pe_lst (pa_cons (pe_lit (cs "and") (by decide +kernel)) (pa_cons (pe_lit (cs "or") (by decide +kernel)) pa_nil))) (pe_callTy call_int1 (by rfl) B.int (by decide +kernel) (pa_cons (pe_cmpR op_eq (pe_ix ix_tup (pv 0) pe_int (fun _ _ => rfl)) pe_str (nomark _)) pa_nil)) (fun _ _ => rfl)))
      (pss_cons (ps_set (i := 2) scBetween.nd rfl (.inl rfl) (pe_call G_law_inner (hr.mono (by omega)) (by rfl) L.g_law_inner L.f_law_inner.kp L.b_law_inner .nil pass0 (pa_cons (pe_ix ix_tup (pv 0) pe_int (fun _ _ => rfl)) (pa_cons (pv 1) pa_nil))))
      (pss_cons (ps_set (i := 4) scBetween.nd rfl (.inl rfl) (pe_call G_law_inner (hr.mono (by omega)) (by rfl) L.g_law_inner L.f_law_inner.kp L.b_law_inner .nil pass0 (pa_cons (pe_ix ix_tup (pv 0) pe_int (fun _ _ => rfl)) (pa_cons (pe_op op_add (pe_op op_add (pe_op op_add (pv 1) (pe_callB call_lenE (by rfl) B.len PySem.boot_len (pa_cons (pe_ix ix_list (pv 2) pe_int (fun _ _ => rfl)) pa_nil))) (pe_callB call_lenE (by rfl) B.len PySem.boot_len (pa_cons (pv 5) pa_nil))) pe_int) pa_nil))))
      (pss_one (ps_ret (pe_lst (pa_cons (pe_op op_catE (pe_op op_catE (pe_op op_catE (pe_op op_catE (pe_ix ix_list (pv 2) pe_int (fun _ _ => rfl)) (pe_lit [32] (by decide +kernel))) (pv 5)) (pe_lit [32] (by decide +kernel))) (pe_ix ix_list (pv 4) pe_int (fun _ _ => rfl))) (pa_cons (pe_tup (pa_cons (pe_ix ix_tup (pv 0) pe_int (fun _ _ => rfl)) (pa_cons (pe_ix ix_list (pv 2) pe_int (fun _ _ => rfl)) (pa_cons (pe_ix ix_list (pv 4) pe_int (fun _ _ => rfl)) pa_nil)))) pa_nil)))))))), ?_⟩
  obtain ⟨w, hk⟩ := w
  cases w with
  | @binary _ l _ r _ _ s1 l1 s2 r1 x hm w1 w2 =>
    obtain ⟨q0, x, y, z, u, rfl, hs, hx, hy, hz, hu⟩ := tp_4 hv
    cases tp_int hx
    cases tp_str hy
    refine ⟨_, rfl, _, _, _, (.str "binary"), rfl, rfl, hs, rfl, rfl, _, rfl, ite2 (fun _ => ?_) (fun e => absurd (by decide +kernel) e)⟩
    refine ⟨_, rfl, _, _, _, z, rfl, rfl, hs, rfl, _, rfl, _, _, _, _, _, _, _, rfl, hz, w1, (by simp only [List.length_append, List.length_cons, List.length_nil, LIM_eq] at hl ⊢; omega), fun H1 y1 v1 m1 t1 h1 => ?_⟩
    replace hs := sqt_same m1 hs
    replace hz := tp_same m1 hz
    replace hu := tp_same m1 hu
    replace hv := tp_same m1 hv
    have sm2 := m1
    refine ⟨_, rfl, _, rfl, _, _, _, (.str (S s1)), rfl, rfl, (SqL.of t1), rfl, _, _, rfl, (by simp only [List.length_append, List.length_cons, List.length_nil, LIM_eq] at hl ⊢; omega), rfl, _, _, rfl, rfl, _, _, rfl, rfl, ?_⟩
    refine ⟨_, rfl, _, _, _, u, rfl, rfl, hs, rfl, _, rfl, _, rfl, _, _, _, (.str (S x)), rfl, rfl, hs, rfl, _, _, rfl, (by simp only [List.length_append, List.length_cons, List.length_nil, LIM_eq] at hl ⊢; omega), rfl, _, _, rfl, rfl, _, _, rfl, rfl, _, _, _, _, _, _, _, rfl, hu, w2, (by simp only [List.length_append, List.length_cons, List.length_nil, LIM_eq] at hl ⊢; omega), fun H3 y3 v3 m3 t3 h3 => ?_⟩
    replace hs := sqt_same m3 hs
    replace hz := tp_same m3 hz
    replace hu := tp_same m3 hu
    replace hv := tp_same m3 hv
    replace t1 := m3 _ _ t1
    replace h1 := tp_same m3 h1
    have sm4 := Same.tr sm2 m3
    refine ⟨_, rfl, _, _, _, (.str (S s1)), rfl, rfl, (SqL.of t1), rfl, _, _, _, rfl, rfl, rfl, (by simp only [List.length_append, List.length_cons, List.length_nil, LIM_eq] at hl ⊢; omega), _, rfl, _, _, _, (.str (S x)), rfl, rfl, hs, rfl, _, _, _, rfl, rfl, rfl, (by simp only [List.length_append, List.length_cons, List.length_nil, LIM_eq] at hl ⊢; omega), _, _, _, rfl, rfl, rfl, (by simp only [List.length_append, List.length_cons, List.length_nil, LIM_eq] at hl ⊢; omega), _, rfl, _, _, _, (.str (S s2)), rfl, rfl, (SqL.of t3), rfl, _, _, _, rfl, rfl, rfl, (by simp only [List.length_append, List.length_cons, List.length_nil, LIM_eq] at hl ⊢; omega), _, rfl, _, rfl, _, _, _, (.str (S x)), rfl, rfl, hs, rfl, _, rfl, _, _, _, v1, rfl, rfl, (SqL.of t1), rfl, _, rfl, _, _, _, v3, rfl, rfl, (SqL.of t3), rfl, (by show 5 ≤ sizeLine; decide), fun y5 n5 => ?_⟩
    have tp5 := tp_new (K := K) (xs := [(.str "binary"), (.int ((at_ + (len s1)) + 1)), (.str (S x)), v1, v3]) n5 (.cons (.str _) (.cons (.int _) (.cons (.str _) (.cons h1 (.cons h3 .nil)))))
    have ob5 := sqt_new (K := K) (xs := [(.str "binary"), (.int ((at_ + (len s1)) + 1)), (.str (S x)), v1, v3]) n5
    have m5 := same_upd (o := HO.tup [(.str "binary"), (.int ((at_ + (len s1)) + 1)), (.str (S x)), v1, v3]) n5
    replace hs := sqt_same m5 hs
    replace hz := tp_same m5 hz
    replace hu := tp_same m5 hu
    replace hv := tp_same m5 hv
    replace t1 := m5 _ _ t1
    replace h1 := tp_same m5 h1
    replace t3 := m5 _ _ t3
    replace h3 := tp_same m5 h3
    have sm6 := Same.tr sm4 m5
    refine ⟨(by show 2 ≤ sizeLine; decide), fun y7 n7 => ?_⟩
    exact q _ _ _ (Same.ly sm6 n7) upd_same (tp_same (same_upd n7) tp5)
  | @both _ l _ r _ _ s1 l1 s2 r1 w1 w2 =>
    obtain ⟨q0, x, y, rfl, hs, hx, hy⟩ := tp_2 hv
    refine ⟨_, rfl, _, _, _, (.str "both"), rfl, rfl, hs, rfl, rfl, _, rfl, ite2 (fun e => absurd e (by decide +kernel)) (fun _ => ?_)⟩
    refine ⟨(by show 2 ≤ sizeLine; decide), fun y8 n8 => ?_⟩
    have ob8 := lst_new (xs := [(.str (S (cs "and"))), (.str (S (cs "or")))]) n8
    have m8 := same_upd (o := HO.lst [(.str (S (cs "and"))), (.str (S (cs "or")))]) n8
    replace hs := sqt_same m8 hs
    replace hx := tp_same m8 hx
    replace hy := tp_same m8 hy
    replace hv := tp_same m8 hv
    have sm9 := m8
    refine ⟨_, rfl, _, _, _, (.str "both"), rfl, rfl, hs, rfl, rfl, .inr ⟨_, rfl, _, _, _, (.str (S (cs "and"))), rfl, rfl, (SqL.of ob8), (by decide +kernel), ?_⟩⟩
    refine ⟨_, rfl, _, _, _, x, rfl, rfl, hs, rfl, _, rfl, _, _, _, _, _, _, _, rfl, hx, w1, (by simp only [List.length_append, List.length_cons, List.length_nil, LIM_eq] at hl ⊢; omega), fun H10 y10 v10 m10 t10 h10 => ?_⟩
    replace hs := sqt_same m10 hs
    replace hx := tp_same m10 hx
    replace hy := tp_same m10 hy
    replace hv := tp_same m10 hv
    replace ob8 := m10 _ _ ob8
    have sm11 := Same.tr sm9 m10
    refine ⟨_, rfl, _, _, _, y, rfl, rfl, hs, rfl, _, rfl, _, rfl, _, _, _, (.str (S s1)), rfl, rfl, (SqL.of t10), rfl, _, _, rfl, (by simp only [List.length_append, List.length_cons, List.length_nil, LIM_eq] at hl ⊢; omega), rfl, _, _, rfl, rfl, _, rfl, (cs "and"), 3, rfl, (by decide +kernel), (by decide +kernel), _, _, rfl, rfl, _, _, rfl, rfl, _, _, _, _, _, _, _, rfl, hy, w2, (by simp only [List.length_append, List.length_cons, List.length_nil, LIM_eq] at hl ⊢; omega), fun H12 y12 v12 m12 t12 h12 => ?_⟩
    replace hs := sqt_same m12 hs
    replace hx := tp_same m12 hx
    replace hy := tp_same m12 hy
    replace hv := tp_same m12 hv
    replace ob8 := m12 _ _ ob8
    replace t10 := m12 _ _ t10
    replace h10 := tp_same m12 h10
    have sm13 := Same.tr sm11 m12
    refine ⟨_, rfl, _, _, _, (.str (S s1)), rfl, rfl, (SqL.of t10), rfl, _, _, _, rfl, rfl, rfl, (by simp only [List.length_append, List.length_cons, List.length_nil, LIM_eq] at hl ⊢; omega), _, rfl, _, _, _, rfl, rfl, rfl, (by simp only [List.length_append, List.length_cons, List.length_nil, LIM_eq] at hl ⊢; omega), _, _, _, rfl, rfl, rfl, (by simp only [List.length_append, List.length_cons, List.length_nil, LIM_eq] at hl ⊢; omega), _, rfl, _, _, _, (.str (S s2)), rfl, rfl, (SqL.of t12), rfl, _, _, _, rfl, rfl, rfl, (by simp only [List.length_append, List.length_cons, List.length_nil, LIM_eq] at hl ⊢; omega), _, rfl, _, _, _, (.str "both"), rfl, rfl, hs, rfl, _, rfl, _, _, _, v10, rfl, rfl, (SqL.of t10), rfl, _, rfl, _, _, _, v12, rfl, rfl, (SqL.of t12), rfl, (by show 3 ≤ sizeLine; decide), fun y14 n14 => ?_⟩
    have tp14 := tp_new (K := K) (xs := [(.str "both"), v10, v12]) n14 (.cons (.str _) (.cons h10 (.cons h12 .nil)))
    have ob14 := sqt_new (K := K) (xs := [(.str "both"), v10, v12]) n14
    have m14 := same_upd (o := HO.tup [(.str "both"), v10, v12]) n14
    replace hs := sqt_same m14 hs
    replace hx := tp_same m14 hx
    replace hy := tp_same m14 hy
    replace hv := tp_same m14 hv
    replace ob8 := m14 _ _ ob8
    replace t10 := m14 _ _ t10
    replace h10 := tp_same m14 h10
    replace t12 := m14 _ _ t12
    replace h12 := tp_same m14 h12
    have sm15 := Same.tr sm13 m14
    refine ⟨(by show 2 ≤ sizeLine; decide), fun y16 n16 => ?_⟩
    exact q _ _ _ (Same.ly sm15 n16) upd_same (tp_same (same_upd n16) tp14)
  | @either _ l _ r _ _ s1 l1 s2 r1 w1 w2 =>
    obtain ⟨q0, x, y, rfl, hs, hx, hy⟩ := tp_2 hv
    refine ⟨_, rfl, _, _, _, (.str "either"), rfl, rfl, hs, rfl, rfl, _, rfl, ite2 (fun e => absurd e (by decide +kernel)) (fun _ => ?_)⟩
    refine ⟨(by show 2 ≤ sizeLine; decide), fun y17 n17 => ?_⟩
    have ob17 := lst_new (xs := [(.str (S (cs "and"))), (.str (S (cs "or")))]) n17
    have m17 := same_upd (o := HO.lst [(.str (S (cs "and"))), (.str (S (cs "or")))]) n17
    replace hs := sqt_same m17 hs
    replace hx := tp_same m17 hx
    replace hy := tp_same m17 hy
    replace hv := tp_same m17 hv
    have sm18 := m17
    refine ⟨_, rfl, _, _, _, (.str "either"), rfl, rfl, hs, rfl, rfl, .inr ⟨_, rfl, _, _, _, (.str (S (cs "or"))), rfl, rfl, (SqL.of ob17), (by decide +kernel), ?_⟩⟩
    refine ⟨_, rfl, _, _, _, x, rfl, rfl, hs, rfl, _, rfl, _, _, _, _, _, _, _, rfl, hx, w1, (by simp only [List.length_append, List.length_cons, List.length_nil, LIM_eq] at hl ⊢; omega), fun H19 y19 v19 m19 t19 h19 => ?_⟩
    replace hs := sqt_same m19 hs
    replace hx := tp_same m19 hx
    replace hy := tp_same m19 hy
    replace hv := tp_same m19 hv
    replace ob17 := m19 _ _ ob17
    have sm20 := Same.tr sm18 m19
    refine ⟨_, rfl, _, _, _, y, rfl, rfl, hs, rfl, _, rfl, _, rfl, _, _, _, (.str (S s1)), rfl, rfl, (SqL.of t19), rfl, _, _, rfl, (by simp only [List.length_append, List.length_cons, List.length_nil, LIM_eq] at hl ⊢; omega), rfl, _, _, rfl, rfl, _, rfl, (cs "or"), 2, rfl, (by decide +kernel), (by decide +kernel), _, _, rfl, rfl, _, _, rfl, rfl, _, _, _, _, _, _, _, rfl, hy, w2, (by simp only [List.length_append, List.length_cons, List.length_nil, LIM_eq] at hl ⊢; omega), fun H21 y21 v21 m21 t21 h21 => ?_⟩
    replace hs := sqt_same m21 hs
    replace hx := tp_same m21 hx
    replace hy := tp_same m21 hy
    replace hv := tp_same m21 hv
    replace ob17 := m21 _ _ ob17
    replace t19 := m21 _ _ t19
    replace h19 := tp_same m21 h19
    have sm22 := Same.tr sm20 m21
    refine ⟨_, rfl, _, _, _, (.str (S s1)), rfl, rfl, (SqL.of t19), rfl, _, _, _, rfl, rfl, rfl, (by simp only [List.length_append, List.length_cons, List.length_nil, LIM_eq] at hl ⊢; omega), _, rfl, _, _, _, rfl, rfl, rfl, (by simp only [List.length_append, List.length_cons, List.length_nil, LIM_eq] at hl ⊢; omega), _, _, _, rfl, rfl, rfl, (by simp only [List.length_append, List.length_cons, List.length_nil, LIM_eq] at hl ⊢; omega), _, rfl, _, _, _, (.str (S s2)), rfl, rfl, (SqL.of t21), rfl, _, _, _, rfl, rfl, rfl, (by simp only [List.length_append, List.length_cons, List.length_nil, LIM_eq] at hl ⊢; omega), _, rfl, _, _, _, (.str "either"), rfl, rfl, hs, rfl, _, rfl, _, _, _, v19, rfl, rfl, (SqL.of t19), rfl, _, rfl, _, _, _, v21, rfl, rfl, (SqL.of t21), rfl, (by show 3 ≤ sizeLine; decide), fun y23 n23 => ?_⟩
    have tp23 := tp_new (K := K) (xs := [(.str "either"), v19, v21]) n23 (.cons (.str _) (.cons h19 (.cons h21 .nil)))
    have ob23 := sqt_new (K := K) (xs := [(.str "either"), v19, v21]) n23
    have m23 := same_upd (o := HO.tup [(.str "either"), v19, v21]) n23
    replace hs := sqt_same m23 hs
    replace hx := tp_same m23 hx
    replace hy := tp_same m23 hy
    replace hv := tp_same m23 hv
    replace ob17 := m23 _ _ ob17
    replace t19 := m23 _ _ t19
    replace h19 := tp_same m23 h19
    replace t21 := m23 _ _ t21
    replace h21 := tp_same m23 h21
    have sm24 := Same.tr sm22 m23
    refine ⟨(by show 2 ≤ sizeLine; decide), fun y25 n25 => ?_⟩
    exact q _ _ _ (Same.ly sm24 n25) upd_same (tp_same (same_upd n25) tp23)
  | leaf h0 =>
    obtain ⟨kk, fs, rfl, z1, z2⟩ := leaf_head h0
    exact absurd (hk.symm.trans (show btK kk = false from z1)) (by decide)
  | unary => exact absurd hk (show ¬ (btK "unary" = true) by decide +kernel)
  | list => exact absurd hk (show ¬ (btK "list" = true) by decide +kernel)
  | map => exact absurd hk (show ¬ (btK "map" = true) by decide +kernel)
  | super => exact absurd hk (show ¬ (btK "super" = true) by decide +kernel)
  | fn w1 =>
    cases w1 with
    | mk hj wb => exact absurd hk (show ¬ (btK "function" = true) by decide +kernel)
  | assign => exact absurd hk (show ¬ (btK "assign" = true) by decide +kernel)
  | call => exact absurd hk (show ¬ (btK "call" = true) by decide +kernel)
  | index => exact absurd hk (show ¬ (btK "index" = true) by decide +kernel)
  | setIndex => exact absurd hk (show ¬ (btK "set_index" = true) by decide +kernel)
  | field => exact absurd hk (show ¬ (btK "field" = true) by decide +kernel)
  | invoke => exact absurd hk (show ¬ (btK "invoke" = true) by decide +kernel)
  | setField => exact absurd hk (show ¬ (btK "set_field" = true) by decide +kernel)
/-! ### _law_suffixed -/
theorem scSuffixed : FnScope ["term", "at", "kind", "told", "left", "offset", "place", "text"] ["term", "at"] (defScope sSuffixed) := ⟨rfl, rfl, rfl, by decide +kernel, rfl, by decide +kernel, by decide +kernel⟩
theorem ok_suffixed {R S0 : Rl} {k : Nat} (L : TW K mg a d) (B : Bl mg) (G_law_inner : FnOk P w K mg base CX0 k (a 0) (d 0) ["term", "at"] (spW K (InnW R))) (G_law_list : FnOk P w K mg base CX0 k (a 1) (d 1) ["terms", "at"] (spW K (LsR R))) (G_law_write : FnOk P w K mg base CX0 k (a 2) (d 2) ["term", "at"] (spW K R)) : FnOk P w K mg base CX0 (k + 1) (a 5) (d 5) ["term", "at"] (spW K (SfR R S0)) := by
  refine L.f_law_suffixed.ok scSuffixed spW_len (fun cdv A outer s H vs Q E hr h => ?_)
  obtain ⟨v, d0, a0, b0, at_, s0, d0', rfl, hv, w, hl, q⟩ := h
  refine ⟨_, pss_cons (ps_set (i := 2) scSuffixed.nd rfl (.inl rfl) (pe_ix ix_tup (pv 0) pe_int (fun _ _ => rfl)))
      (pss_cons (ps_if (pt_cmpR op_eq (pv 2) pe_str (nomark _))
        (pss_cons (ps_set (i := 3) scSuffixed.nd rfl (.inl rfl) (pe_call G_law_list (hr.mono (by omega)) (by rfl) L.g_law_list L.f_law_list.kp L.b_law_list .nil pass0 (pa_cons (pe_ix ix_tup (pv 0) pe_int (fun _ _ => rfl)) (pa_cons (pe_op op_add (pe_op op_add (pv 1) (pe_callB call_lenE (by rfl) B.len PySem.boot_len (pa_cons (pe_op op_catE (pe_lit (cs "super.") (by decide +kernel)) (pe_ix ix_tup (pv 0) pe_int (fun _ _ => rfl))) pa_nil))) pe_int) pa_nil))))
        (pss_one (ps_ret (pe_lst (pa_cons (pe_op op_catE (pe_op op_catE (pe_op op_catE (pe_op op_catE (pe_lit (cs "super.") (by decide +kernel)) (pe_ix ix_tup (pv 0) pe_int (fun _ _ => rfl))) (pe_lit [40] (by decide +kernel))) (pe_ix ix_list (pv 3) pe_int (fun _ _ => rfl))) (pe_lit [41] (by decide +kernel))) (pa_cons (pe_tup (pa_cons pe_str (pa_cons (pv 1) (pa_cons (pe_ix ix_tup (pv 0) pe_int (fun _ _ => rfl)) (pa_cons (pe_ix ix_list (pv 3) pe_int (fun _ _ => rfl)) pa_nil))))) pa_nil))))))
        pss_nil)
      (pss_cons (ps_if (pt_cmpR op_eq (pv 2) pe_str (nomark _))
        (pss_cons (ps_set (i := 3) scSuffixed.nd rfl (.inl rfl) (pe_call G_law_write (hr.mono (by omega)) (by rfl) L.g_law_write L.f_law_write.kp L.b_law_write .nil pass0 (pa_cons (pe_ix ix_tup (pv 0) pe_int (fun _ _ => rfl)) (pa_cons (pe_op op_add (pe_op op_add (pv 1) (pe_callB call_lenE (by rfl) B.len PySem.boot_len (pa_cons (pe_ix ix_tup (pv 0) pe_int (fun _ _ => rfl)) pa_nil))) pe_int) pa_nil))))
        (pss_one (ps_ret (pe_lst (pa_cons (pe_op op_catE (pe_op op_catE (pe_ix ix_tup (pv 0) pe_int (fun _ _ => rfl)) (pe_lit [61] (by decide +kernel))) (pe_ix ix_list (pv 3) pe_int (fun _ _ => rfl))) (pa_cons (pe_tup (pa_cons pe_str (pa_cons (pv 1) (pa_cons (pe_ix ix_tup (pv 0) pe_int (fun _ _ => rfl)) (pa_cons (pe_ix ix_list (pv 3) pe_int (fun _ _ => rfl)) pa_nil))))) pa_nil))))))
        pss_nil)
      (pss_cons (ps_set (i := 4) scSuffixed.nd rfl (.inl rfl) (pe_call G_law_inner (hr.mono (by omega)) (by rfl) L.g_law_inner L.f_law_inner.kp L.b_law_inner .nil pass0 (pa_cons (pe_ix ix_tup (pv 0) pe_int (fun _ _ => rfl)) (pa_cons (pv 1) pa_nil))))
      (pss_cons (ps_set (i := 5) scSuffixed.nd rfl (.inl rfl) (pe_op op_add (pv 1) (pe_callB call_lenE (by rfl) B.len PySem.boot_len (pa_cons (pe_ix ix_list (pv 4) pe_int (fun _ _ => rfl)) pa_nil))))
      (pss_cons (ps_if (pt_cmpR op_eq (pv 2) pe_str (nomark _))
        (pss_cons (ps_set (i := 3) scSuffixed.nd rfl (.inl rfl) (pe_call G_law_list (hr.mono (by omega)) (by rfl) L.g_law_list L.f_law_list.kp L.b_law_list .nil pass0 (pa_cons (pe_ix ix_tup (pv 0) pe_int (fun _ _ => rfl)) (pa_cons (pe_op op_add (pv 5) pe_int) pa_nil))))
        (pss_one (ps_ret (pe_lst (pa_cons (pe_op op_catE (pe_op op_catE (pe_op op_catE (pe_ix ix_list (pv 4) pe_int (fun _ _ => rfl)) (pe_lit [40] (by decide +kernel))) (pe_ix ix_list (pv 3) pe_int (fun _ _ => rfl))) (pe_lit [41] (by decide +kernel))) (pa_cons (pe_tup (pa_cons pe_str (pa_cons (pv 5) (pa_cons (pe_ix ix_list (pv 4) pe_int (fun _ _ => rfl)) (pa_cons (pe_ix ix_list (pv 3) pe_int (fun _ _ => rfl)) pa_nil))))) pa_nil))))))
        pss_nil)
      (pss_cons (ps_if (pt_cmpR op_in_seq (pv 2) (pe_tup (pa_cons pe_str (pa_cons pe_str pa_nil))) (by rfl))
        (pss_cons (ps_set (i := 6) scSuffixed.nd rfl (.inl rfl) (pe_call G_law_write (hr.mono (by omega)) (by rfl) L.g_law_write L.f_law_write.kp L.b_law_write .nil pass0 (pa_cons (pe_ix ix_tup (pv 0) pe_int (fun _ _ => rfl)) (pa_cons (pe_op op_add (pv 5) pe_int) pa_nil))))
        (pss_cons (ps_set (i := 7) scSuffixed.nd rfl (.inl rfl) (pe_op op_catE (pe_op op_catE (pe_op op_catE (pe_ix ix_list (pv 4) pe_int (fun _ _ => rfl)) (pe_lit [91] (by decide +kernel))) (pe_ix ix_list (pv 6) pe_int (fun _ _ => rfl))) (pe_lit [93] (by decide +kernel))))
        (pss_cons (ps_if (pt_cmpR op_eq (pv 2) pe_str (nomark _))
          (pss_one (ps_ret (pe_lst (pa_cons (pv 7) (pa_cons (pe_tup (pa_cons pe_str (pa_cons (pv 5) (pa_cons (pe_ix ix_list (pv 4) pe_int (fun _ _ => rfl)) (pa_cons (pe_ix ix_list (pv 6) pe_int (fun _ _ => rfl)) pa_nil))))) pa_nil)))))
          pss_nil)
        (pss_cons (ps_set (i := 3) scSuffixed.nd rfl (.inl rfl) (pe_call G_law_write (hr.mono (by omega)) (by rfl) L.g_law_write L.f_law_write.kp L.b_law_write .nil pass0 (pa_cons (pe_ix ix_tup (pv 0) pe_int (fun _ _ => rfl)) (pa_cons (pe_op op_add (pe_op op_add (pv 1) (pe_callB call_lenE (by rfl) B.len PySem.boot_len (pa_cons (pv 7) pa_nil))) pe_int) pa_nil))))
        (pss_one (ps_ret (pe_lst (pa_cons (pe_op op_catE (pe_op op_catE (pv 7) (pe_lit [61] (by decide +kernel))) (pe_ix ix_list (pv 3) pe_int (fun _ _ => rfl))) (pa_cons (pe_tup (pa_cons pe_str (pa_cons (pv 5) (pa_cons (pe_ix ix_list (pv 4) pe_int (fun _ _ => rfl)) (pa_cons (pe_ix ix_list (pv 6) pe_int (fun _ _ => rfl)) (pa_cons (pe_ix ix_list (pv 3) pe_int (fun _ _ => rfl)) pa_nil)))))) pa_nil)))))))))
        pss_nil)
      (pss_cons (ps_set (i := 7) scSuffixed.nd rfl (.inl rfl) (pe_op op_catE (pe_op op_catE (pe_ix ix_list (pv 4) pe_int (fun _ _ => rfl)) (pe_lit [46] (by decide +kernel))) (pe_ix ix_tup (pv 0) pe_int (fun _ _ => rfl))))
      (pss_cons (ps_if (pt_cmpR op_eq (pv 2) pe_str (nomark _))
        (pss_one (ps_ret (pe_lst (pa_cons (pv 7) (pa_cons (pe_tup (pa_cons pe_str (pa_cons (pv 5) (pa_cons (pe_ix ix_list (pv 4) pe_int (fun _ _ => rfl)) (pa_cons (pe_ix ix_tup (pv 0) pe_int (fun _ _ => rfl)) pa_nil))))) pa_nil)))))
        pss_nil)
      (pss_cons (ps_if (pt_cmpR op_eq (pv 2) pe_str (nomark _))
        (pss_cons (ps_set (i := 3) scSuffixed.nd rfl (.inl rfl) (pe_call G_law_list (hr.mono (by omega)) (by rfl) L.g_law_list L.f_law_list.kp L.b_law_list .nil pass0 (pa_cons (pe_ix ix_tup (pv 0) pe_int (fun _ _ => rfl)) (pa_cons (pe_op op_add (pe_op op_add (pv 1) (pe_callB call_lenE (by rfl) B.len PySem.boot_len (pa_cons (pv 7) pa_nil))) pe_int) pa_nil))))
        (pss_one (ps_ret (pe_lst (pa_cons (pe_op op_catE (pe_op op_catE (pe_op op_catE (pv 7) (pe_lit [40] (by decide +kernel))) (pe_ix ix_list (pv 3) pe_int (fun _ _ => rfl))) (pe_lit [41] (by decide +kernel))) (pa_cons (pe_tup (pa_cons pe_str (pa_cons (pv 5) (pa_cons (pe_ix ix_list (pv 4) pe_int (fun _ _ => rfl)) (pa_cons (pe_ix ix_tup (pv 0) pe_int (fun _ _ => rfl)) (pa_cons (pe_ix ix_list (pv 3) pe_int (fun _ _ => rfl)) pa_nil)))))) pa_nil))))))
        pss_nil)
      (pss_cons (ps_set (i := 3) scSuffixed.nd rfl (.inl rfl) (pe_call G_law_write (hr.mono (by omega)) (by rfl) L.g_law_write L.f_law_write.kp L.b_law_write .nil pass0 (pa_cons (pe_ix ix_tup (pv 0) pe_int (fun _ _ => rfl)) (pa_cons (pe_op op_add (pe_op op_add (pv 1) (pe_callB call_lenE (by rfl) B.len PySem.boot_len (pa_cons (pv 7) pa_nil))) pe_int) pa_nil))))
      (pss_one (ps_ret (pe_lst (pa_cons (pe_op op_catE (pe_op op_catE (pv 7) (pe_lit [61] (by decide +kernel))) (pe_ix ix_list (pv 3) pe_int (fun _ _ => rfl))) (pa_cons (pe_tup (pa_cons pe_str (pa_cons (pv 5) (pa_cons (pe_ix ix_list (pv 4) pe_int (fun _ _ => rfl)) (pa_cons (pe_ix ix_tup (pv 0) pe_int (fun _ _ => rfl)) (pa_cons (pe_ix ix_list (pv 3) pe_int (fun _ _ => rfl)) pa_nil)))))) pa_nil))))))))))))))), ?_⟩
  obtain ⟨w, hk⟩ := w
  cases w with
  | @super _ es _ _ s1 es1 hn w1 =>
    obtain ⟨q0, x, y, z, rfl, hs, hx, hy, hz⟩ := tp_3 hv
    cases tp_int hx
    cases tp_str hy
    refine ⟨_, rfl, _, _, _, (.str "super"), rfl, rfl, hs, rfl, ?_⟩
    refine ⟨_, rfl, rfl, _, rfl, ite2 (fun _ => ?_) (fun e => absurd (by decide +kernel) e)⟩
    refine ⟨_, rfl, _, _, _, z, rfl, rfl, hs, rfl, _, rfl, _, rfl, _, _, _, (.str "x"), rfl, rfl, hs, rfl, _, [120], (cs "super.x"), rfl, (congrArg V.str (by decide +kernel)), (by decide +kernel), (by simp only [List.length_append, List.length_cons, List.length_nil, LIM_eq] at hl ⊢; omega), (cs "super.x"), 7, rfl, (by decide +kernel), (by decide +kernel), _, _, rfl, rfl, _, _, rfl, rfl, _, _, _, _, _, _, _, rfl, hz, ⟨_, _, rfl, rfl, (by omega), w1⟩, (by simp only [List.length_append, List.length_cons, List.length_nil, LIM_eq] at hl ⊢; omega), fun H26 y26 v26 m26 t26 h26 => ?_⟩
    replace hs := sqt_same m26 hs
    replace hz := tp_same m26 hz
    replace hv := tp_same m26 hv
    have sm27 := m26
    refine ⟨_, rfl, _, _, _, (.str "x"), rfl, rfl, hs, rfl, _, [120], (cs "super.x"), rfl, (congrArg V.str (by decide +kernel)), (by decide +kernel), (by simp only [List.length_append, List.length_cons, List.length_nil, LIM_eq] at hl ⊢; omega), _, _, _, rfl, rfl, rfl, (by simp only [List.length_append, List.length_cons, List.length_nil, LIM_eq] at hl ⊢; omega), _, rfl, _, _, _, (.str (S s1)), rfl, rfl, (SqL.of t26), rfl, _, _, _, rfl, rfl, rfl, (by simp only [List.length_append, List.length_cons, List.length_nil, LIM_eq] at hl ⊢; omega), _, _, _, rfl, rfl, rfl, (by simp only [List.length_append, List.length_cons, List.length_nil, LIM_eq] at hl ⊢; omega), _, rfl, _, rfl, _, _, _, (.str "x"), rfl, rfl, hs, rfl, _, rfl, _, _, _, v26, rfl, rfl, (SqL.of t26), rfl, (by show 4 ≤ sizeLine; decide), fun y28 n28 => ?_⟩
    have tp28 := tp_new (K := K) (xs := [(.str "super"), (.int at_), (.str "x"), v26]) n28 (.cons (.str _) (.cons (.int _) (.cons (.str _) (.cons h26 .nil))))
    have ob28 := sqt_new (K := K) (xs := [(.str "super"), (.int at_), (.str "x"), v26]) n28
    have m28 := same_upd (o := HO.tup [(.str "super"), (.int at_), (.str "x"), v26]) n28
    replace hs := sqt_same m28 hs
    replace hz := tp_same m28 hz
    replace hv := tp_same m28 hv
    replace t26 := m28 _ _ t26
    replace h26 := tp_same m28 h26
    have sm29 := Same.tr sm27 m28
    refine ⟨(by show 2 ≤ sizeLine; decide), fun y30 n30 => ?_⟩
    exact q _ _ _ (Same.ly sm29 n30) upd_same (tp_same (same_upd n30) tp28)
  | @assign _ e _ _ s1 e1 x hm w1 =>
    obtain ⟨q0, x, y, z, rfl, hs, hx, hy, hz⟩ := tp_3 hv
    cases tp_int hx
    cases tp_str hy
    refine ⟨_, rfl, _, _, _, (.str "assign"), rfl, rfl, hs, rfl, ?_⟩
    refine ⟨_, rfl, rfl, _, rfl, ite2 (fun e => absurd e (by decide +kernel)) (fun _ => ?_)⟩
    refine ⟨_, rfl, rfl, _, rfl, ite2 (fun _ => ?_) (fun e => absurd (by decide +kernel) e)⟩
    refine ⟨_, rfl, _, _, _, z, rfl, rfl, hs, rfl, _, rfl, _, rfl, _, _, _, (.str (S x)), rfl, rfl, hs, rfl, _, _, rfl, (by simp only [List.length_append, List.length_cons, List.length_nil, LIM_eq] at hl ⊢; omega), rfl, _, _, rfl, rfl, _, _, rfl, rfl, _, _, _, _, _, _, _, rfl, hz, w1, (by simp only [List.length_append, List.length_cons, List.length_nil, LIM_eq] at hl ⊢; omega), fun H31 y31 v31 m31 t31 h31 => ?_⟩
    replace hs := sqt_same m31 hs
    replace hz := tp_same m31 hz
    replace hv := tp_same m31 hv
    have sm32 := m31
    refine ⟨_, rfl, _, _, _, (.str (S x)), rfl, rfl, hs, rfl, _, _, _, rfl, rfl, rfl, (by simp only [List.length_append, List.length_cons, List.length_nil, LIM_eq] at hl ⊢; omega), _, rfl, _, _, _, (.str (S s1)), rfl, rfl, (SqL.of t31), rfl, _, _, _, rfl, rfl, rfl, (by simp only [List.length_append, List.length_cons, List.length_nil, LIM_eq] at hl ⊢; omega), _, rfl, _, rfl, _, _, _, (.str (S x)), rfl, rfl, hs, rfl, _, rfl, _, _, _, v31, rfl, rfl, (SqL.of t31), rfl, (by show 4 ≤ sizeLine; decide), fun y33 n33 => ?_⟩
    have tp33 := tp_new (K := K) (xs := [(.str "assign"), (.int at_), (.str (S x)), v31]) n33 (.cons (.str _) (.cons (.int _) (.cons (.str _) (.cons h31 .nil))))
    have ob33 := sqt_new (K := K) (xs := [(.str "assign"), (.int at_), (.str (S x)), v31]) n33
    have m33 := same_upd (o := HO.tup [(.str "assign"), (.int at_), (.str (S x)), v31]) n33
    replace hs := sqt_same m33 hs
    replace hz := tp_same m33 hz
    replace hv := tp_same m33 hv
    replace t31 := m33 _ _ t31
    replace h31 := tp_same m33 h31
    have sm34 := Same.tr sm32 m33
    refine ⟨(by show 2 ≤ sizeLine; decide), fun y35 n35 => ?_⟩
    exact q _ _ _ (Same.ly sm34 n35) upd_same (tp_same (same_upd n35) tp33)
  | @call _ l _ es _ _ s1 l1 s2 es1 hn w1 w2 =>
    obtain ⟨q0, x, y, z, rfl, hs, hx, hy, hz⟩ := tp_3 hv
    cases tp_int hx
    refine ⟨_, rfl, _, _, _, (.str "call"), rfl, rfl, hs, rfl, ?_⟩
    refine ⟨_, rfl, rfl, _, rfl, ite2 (fun e => absurd e (by decide +kernel)) (fun _ => ?_)⟩
    refine ⟨_, rfl, rfl, _, rfl, ite2 (fun e => absurd e (by decide +kernel)) (fun _ => ?_)⟩
    refine ⟨_, rfl, _, _, _, y, rfl, rfl, hs, rfl, _, rfl, _, _, _, _, _, _, _, rfl, hy, w1, (by simp only [List.length_append, List.length_cons, List.length_nil, LIM_eq] at hl ⊢; omega), fun H36 y36 v36 m36 t36 h36 => ?_⟩
    replace hs := sqt_same m36 hs
    replace hy := tp_same m36 hy
    replace hz := tp_same m36 hz
    replace hv := tp_same m36 hv
    have sm37 := m36
    refine ⟨_, rfl, _, rfl, _, _, _, (.str (S s1)), rfl, rfl, (SqL.of t36), rfl, _, _, rfl, (by simp only [List.length_append, List.length_cons, List.length_nil, LIM_eq] at hl ⊢; omega), rfl, _, _, rfl, rfl, ?_⟩
    refine ⟨_, rfl, rfl, _, rfl, ite2 (fun _ => ?_) (fun e => absurd (by decide +kernel) e)⟩
    refine ⟨_, rfl, _, _, _, z, rfl, rfl, hs, rfl, _, rfl, _, _, rfl, rfl, _, _, _, _, _, _, _, rfl, hz, ⟨_, _, rfl, rfl, (by omega), w2⟩, (by simp only [List.length_append, List.length_cons, List.length_nil, LIM_eq] at hl ⊢; omega), fun H38 y38 v38 m38 t38 h38 => ?_⟩
    replace hs := sqt_same m38 hs
    replace hy := tp_same m38 hy
    replace hz := tp_same m38 hz
    replace hv := tp_same m38 hv
    replace t36 := m38 _ _ t36
    replace h36 := tp_same m38 h36
    have sm39 := Same.tr sm37 m38
    refine ⟨_, rfl, _, _, _, (.str (S s1)), rfl, rfl, (SqL.of t36), rfl, _, _, _, rfl, rfl, rfl, (by simp only [List.length_append, List.length_cons, List.length_nil, LIM_eq] at hl ⊢; omega), _, rfl, _, _, _, (.str (S s2)), rfl, rfl, (SqL.of t38), rfl, _, _, _, rfl, rfl, rfl, (by simp only [List.length_append, List.length_cons, List.length_nil, LIM_eq] at hl ⊢; omega), _, _, _, rfl, rfl, rfl, (by simp only [List.length_append, List.length_cons, List.length_nil, LIM_eq] at hl ⊢; omega), _, rfl, _, rfl, _, _, _, v36, rfl, rfl, (SqL.of t36), rfl, _, rfl, _, _, _, v38, rfl, rfl, (SqL.of t38), rfl, (by show 4 ≤ sizeLine; decide), fun y40 n40 => ?_⟩
    have tp40 := tp_new (K := K) (xs := [(.str "call"), (.int (at_ + (len s1))), v36, v38]) n40 (.cons (.str _) (.cons (.int _) (.cons h36 (.cons h38 .nil))))
    have ob40 := sqt_new (K := K) (xs := [(.str "call"), (.int (at_ + (len s1))), v36, v38]) n40
    have m40 := same_upd (o := HO.tup [(.str "call"), (.int (at_ + (len s1))), v36, v38]) n40
    replace hs := sqt_same m40 hs
    replace hy := tp_same m40 hy
    replace hz := tp_same m40 hz
    replace hv := tp_same m40 hv
    replace t36 := m40 _ _ t36
    replace h36 := tp_same m40 h36
    replace t38 := m40 _ _ t38
    replace h38 := tp_same m40 h38
    have sm41 := Same.tr sm39 m40
    refine ⟨(by show 2 ≤ sizeLine; decide), fun y42 n42 => ?_⟩
    exact q _ _ _ (Same.ly sm41 n42) upd_same (tp_same (same_upd n42) tp40)
  | @index _ l _ i _ _ s1 l1 s2 i1 w1 w2 =>
    obtain ⟨q0, x, y, z, rfl, hs, hx, hy, hz⟩ := tp_3 hv
    cases tp_int hx
    refine ⟨_, rfl, _, _, _, (.str "index"), rfl, rfl, hs, rfl, ?_⟩
    refine ⟨_, rfl, rfl, _, rfl, ite2 (fun e => absurd e (by decide +kernel)) (fun _ => ?_)⟩
    refine ⟨_, rfl, rfl, _, rfl, ite2 (fun e => absurd e (by decide +kernel)) (fun _ => ?_)⟩
    refine ⟨_, rfl, _, _, _, y, rfl, rfl, hs, rfl, _, rfl, _, _, _, _, _, _, _, rfl, hy, w1, (by simp only [List.length_append, List.length_cons, List.length_nil, LIM_eq] at hl ⊢; omega), fun H43 y43 v43 m43 t43 h43 => ?_⟩
    replace hs := sqt_same m43 hs
    replace hy := tp_same m43 hy
    replace hz := tp_same m43 hz
    replace hv := tp_same m43 hv
    have sm44 := m43
    refine ⟨_, rfl, _, rfl, _, _, _, (.str (S s1)), rfl, rfl, (SqL.of t43), rfl, _, _, rfl, (by simp only [List.length_append, List.length_cons, List.length_nil, LIM_eq] at hl ⊢; omega), rfl, _, _, rfl, rfl, ?_⟩
    refine ⟨_, rfl, rfl, _, rfl, ite2 (fun e => absurd e (by decide +kernel)) (fun _ => ?_)⟩
    refine ⟨_, rfl, (by show 2 ≤ sizeLine; decide), fun y45 n45 => ?_⟩
    have tp45 := tp_new (K := K) (xs := [(.str "index"), (.str "set_index")]) n45 (.cons (.str _) (.cons (.str _) .nil))
    have ob45 := sqt_new (K := K) (xs := [(.str "index"), (.str "set_index")]) n45
    have m45 := same_upd (o := HO.tup [(.str "index"), (.str "set_index")]) n45
    replace hs := sqt_same m45 hs
    replace hy := tp_same m45 hy
    replace hz := tp_same m45 hz
    replace hv := tp_same m45 hv
    replace t43 := m45 _ _ t43
    replace h43 := tp_same m45 h43
    have sm46 := Same.tr sm44 m45
    refine ⟨_, _, rfl, .inr ob45, rfl, rfl, _, rfl, ite2 (fun _ => ?_) (fun e => absurd (by decide +kernel) e)⟩
    refine ⟨_, rfl, _, _, _, z, rfl, rfl, hs, rfl, _, rfl, _, _, rfl, rfl, _, _, _, _, _, _, _, rfl, hz, w2, (by simp only [List.length_append, List.length_cons, List.length_nil, LIM_eq] at hl ⊢; omega), fun H47 y47 v47 m47 t47 h47 => ?_⟩
    replace hs := sqt_same m47 hs
    replace hy := tp_same m47 hy
    replace hz := tp_same m47 hz
    replace hv := tp_same m47 hv
    replace t43 := m47 _ _ t43
    replace h43 := tp_same m47 h43
    replace ob45 := sqt_same m47 ob45
    replace tp45 := tp_same m47 tp45
    have sm48 := Same.tr sm46 m47
    refine ⟨_, rfl, _, _, _, (.str (S s1)), rfl, rfl, (SqL.of t43), rfl, _, _, _, rfl, rfl, rfl, (by simp only [List.length_append, List.length_cons, List.length_nil, LIM_eq] at hl ⊢; omega), _, rfl, _, _, _, (.str (S s2)), rfl, rfl, (SqL.of t47), rfl, _, _, _, rfl, rfl, rfl, (by simp only [List.length_append, List.length_cons, List.length_nil, LIM_eq] at hl ⊢; omega), _, _, _, rfl, rfl, rfl, (by simp only [List.length_append, List.length_cons, List.length_nil, LIM_eq] at hl ⊢; omega), ?_⟩
    refine ⟨_, rfl, rfl, _, rfl, ite2 (fun _ => ?_) (fun e => absurd (by decide +kernel) e)⟩
    refine ⟨_, rfl, _, rfl, _, rfl, _, _, _, v43, rfl, rfl, (SqL.of t43), rfl, _, rfl, _, _, _, v47, rfl, rfl, (SqL.of t47), rfl, (by show 4 ≤ sizeLine; decide), fun y49 n49 => ?_⟩
    have tp49 := tp_new (K := K) (xs := [(.str "index"), (.int (at_ + (len s1))), v43, v47]) n49 (.cons (.str _) (.cons (.int _) (.cons h43 (.cons h47 .nil))))
    have ob49 := sqt_new (K := K) (xs := [(.str "index"), (.int (at_ + (len s1))), v43, v47]) n49
    have m49 := same_upd (o := HO.tup [(.str "index"), (.int (at_ + (len s1))), v43, v47]) n49
    replace hs := sqt_same m49 hs
    replace hy := tp_same m49 hy
    replace hz := tp_same m49 hz
    replace hv := tp_same m49 hv
    replace t43 := m49 _ _ t43
    replace h43 := tp_same m49 h43
    replace ob45 := sqt_same m49 ob45
    replace tp45 := tp_same m49 tp45
    replace t47 := m49 _ _ t47
    replace h47 := tp_same m49 h47
    have sm50 := Same.tr sm48 m49
    refine ⟨(by show 2 ≤ sizeLine; decide), fun y51 n51 => ?_⟩
    exact q _ _ _ (Same.ly sm50 n51) upd_same (tp_same (same_upd n51) tp49)
  | @setIndex _ l _ i _ e _ _ s1 l1 s2 i1 s3 e1 w1 w2 w3 =>
    obtain ⟨q0, x, y, z, u, rfl, hs, hx, hy, hz, hu⟩ := tp_4 hv
    cases tp_int hx
    refine ⟨_, rfl, _, _, _, (.str "set_index"), rfl, rfl, hs, rfl, ?_⟩
    refine ⟨_, rfl, rfl, _, rfl, ite2 (fun e => absurd e (by decide +kernel)) (fun _ => ?_)⟩
    refine ⟨_, rfl, rfl, _, rfl, ite2 (fun e => absurd e (by decide +kernel)) (fun _ => ?_)⟩
    refine ⟨_, rfl, _, _, _, y, rfl, rfl, hs, rfl, _, rfl, _, _, _, _, _, _, _, rfl, hy, w1, (by simp only [List.length_append, List.length_cons, List.length_nil, LIM_eq] at hl ⊢; omega), fun H52 y52 v52 m52 t52 h52 => ?_⟩
    replace hs := sqt_same m52 hs
    replace hy := tp_same m52 hy
    replace hz := tp_same m52 hz
    replace hu := tp_same m52 hu
    replace hv := tp_same m52 hv
    have sm53 := m52
    refine ⟨_, rfl, _, rfl, _, _, _, (.str (S s1)), rfl, rfl, (SqL.of t52), rfl, _, _, rfl, (by simp only [List.length_append, List.length_cons, List.length_nil, LIM_eq] at hl ⊢; omega), rfl, _, _, rfl, rfl, ?_⟩
    refine ⟨_, rfl, rfl, _, rfl, ite2 (fun e => absurd e (by decide +kernel)) (fun _ => ?_)⟩
    refine ⟨_, rfl, (by show 2 ≤ sizeLine; decide), fun y54 n54 => ?_⟩
    have tp54 := tp_new (K := K) (xs := [(.str "index"), (.str "set_index")]) n54 (.cons (.str _) (.cons (.str _) .nil))
    have ob54 := sqt_new (K := K) (xs := [(.str "index"), (.str "set_index")]) n54
    have m54 := same_upd (o := HO.tup [(.str "index"), (.str "set_index")]) n54
    replace hs := sqt_same m54 hs
    replace hy := tp_same m54 hy
    replace hz := tp_same m54 hz
    replace hu := tp_same m54 hu
    replace hv := tp_same m54 hv
    replace t52 := m54 _ _ t52
    replace h52 := tp_same m54 h52
    have sm55 := Same.tr sm53 m54
    refine ⟨_, _, rfl, .inr ob54, rfl, rfl, _, rfl, ite2 (fun _ => ?_) (fun e => absurd (by decide +kernel) e)⟩
    refine ⟨_, rfl, _, _, _, z, rfl, rfl, hs, rfl, _, rfl, _, _, rfl, rfl, _, _, _, _, _, _, _, rfl, hz, w2, (by simp only [List.length_append, List.length_cons, List.length_nil, LIM_eq] at hl ⊢; omega), fun H56 y56 v56 m56 t56 h56 => ?_⟩
    replace hs := sqt_same m56 hs
    replace hy := tp_same m56 hy
    replace hz := tp_same m56 hz
    replace hu := tp_same m56 hu
    replace hv := tp_same m56 hv
    replace t52 := m56 _ _ t52
    replace h52 := tp_same m56 h52
    replace ob54 := sqt_same m56 ob54
    replace tp54 := tp_same m56 tp54
    have sm57 := Same.tr sm55 m56
    refine ⟨_, rfl, _, _, _, (.str (S s1)), rfl, rfl, (SqL.of t52), rfl, _, _, _, rfl, rfl, rfl, (by simp only [List.length_append, List.length_cons, List.length_nil, LIM_eq] at hl ⊢; omega), _, rfl, _, _, _, (.str (S s2)), rfl, rfl, (SqL.of t56), rfl, _, _, _, rfl, rfl, rfl, (by simp only [List.length_append, List.length_cons, List.length_nil, LIM_eq] at hl ⊢; omega), _, _, _, rfl, rfl, rfl, (by simp only [List.length_append, List.length_cons, List.length_nil, LIM_eq] at hl ⊢; omega), ?_⟩
    refine ⟨_, rfl, rfl, _, rfl, ite2 (fun e => absurd e (by decide +kernel)) (fun _ => ?_)⟩
    refine ⟨_, rfl, _, _, _, u, rfl, rfl, hs, rfl, _, rfl, _, rfl, _, _, rfl, (by simp only [List.length_append, List.length_cons, List.length_nil, LIM_eq] at hl ⊢; omega), rfl, _, _, rfl, rfl, _, _, rfl, rfl, _, _, _, _, _, _, _, rfl, hu, w3, (by simp only [List.length_append, List.length_cons, List.length_nil, LIM_eq] at hl ⊢; omega), fun H58 y58 v58 m58 t58 h58 => ?_⟩
    replace hs := sqt_same m58 hs
    replace hy := tp_same m58 hy
    replace hz := tp_same m58 hz
    replace hu := tp_same m58 hu
    replace hv := tp_same m58 hv
    replace t52 := m58 _ _ t52
    replace h52 := tp_same m58 h52
    replace ob54 := sqt_same m58 ob54
    replace tp54 := tp_same m58 tp54
    replace t56 := m58 _ _ t56
    replace h56 := tp_same m58 h56
    have sm59 := Same.tr sm57 m58
    refine ⟨_, rfl, _, _, _, rfl, rfl, rfl, (by simp only [List.length_append, List.length_cons, List.length_nil, LIM_eq] at hl ⊢; omega), _, rfl, _, _, _, (.str (S s3)), rfl, rfl, (SqL.of t58), rfl, _, _, _, rfl, rfl, rfl, (by simp only [List.length_append, List.length_cons, List.length_nil, LIM_eq] at hl ⊢; omega), _, rfl, _, rfl, _, _, _, v52, rfl, rfl, (SqL.of t52), rfl, _, rfl, _, _, _, v56, rfl, rfl, (SqL.of t56), rfl, _, rfl, _, _, _, v58, rfl, rfl, (SqL.of t58), rfl, (by show 5 ≤ sizeLine; decide), fun y60 n60 => ?_⟩
    have tp60 := tp_new (K := K) (xs := [(.str "set_index"), (.int (at_ + (len s1))), v52, v56, v58]) n60 (.cons (.str _) (.cons (.int _) (.cons h52 (.cons h56 (.cons h58 .nil)))))
    have ob60 := sqt_new (K := K) (xs := [(.str "set_index"), (.int (at_ + (len s1))), v52, v56, v58]) n60
    have m60 := same_upd (o := HO.tup [(.str "set_index"), (.int (at_ + (len s1))), v52, v56, v58]) n60
    replace hs := sqt_same m60 hs
    replace hy := tp_same m60 hy
    replace hz := tp_same m60 hz
    replace hu := tp_same m60 hu
    replace hv := tp_same m60 hv
    replace t52 := m60 _ _ t52
    replace h52 := tp_same m60 h52
    replace ob54 := sqt_same m60 ob54
    replace tp54 := tp_same m60 tp54
    replace t56 := m60 _ _ t56
    replace h56 := tp_same m60 h56
    replace t58 := m60 _ _ t58
    replace h58 := tp_same m60 h58
    have sm61 := Same.tr sm59 m60
    refine ⟨(by show 2 ≤ sizeLine; decide), fun y62 n62 => ?_⟩
    exact q _ _ _ (Same.ly sm61 n62) upd_same (tp_same (same_upd n62) tp60)
  | @field _ l _ _ s1 l1 x hm w1 =>
    obtain ⟨q0, x, y, z, rfl, hs, hx, hy, hz⟩ := tp_3 hv
    cases tp_int hx
    cases tp_str hz
    refine ⟨_, rfl, _, _, _, (.str "field"), rfl, rfl, hs, rfl, ?_⟩
    refine ⟨_, rfl, rfl, _, rfl, ite2 (fun e => absurd e (by decide +kernel)) (fun _ => ?_)⟩
    refine ⟨_, rfl, rfl, _, rfl, ite2 (fun e => absurd e (by decide +kernel)) (fun _ => ?_)⟩
    refine ⟨_, rfl, _, _, _, y, rfl, rfl, hs, rfl, _, rfl, _, _, _, _, _, _, _, rfl, hy, w1, (by simp only [List.length_append, List.length_cons, List.length_nil, LIM_eq] at hl ⊢; omega), fun H63 y63 v63 m63 t63 h63 => ?_⟩
    replace hs := sqt_same m63 hs
    replace hy := tp_same m63 hy
    replace hv := tp_same m63 hv
    have sm64 := m63
    refine ⟨_, rfl, _, rfl, _, _, _, (.str (S s1)), rfl, rfl, (SqL.of t63), rfl, _, _, rfl, (by simp only [List.length_append, List.length_cons, List.length_nil, LIM_eq] at hl ⊢; omega), rfl, _, _, rfl, rfl, ?_⟩
    refine ⟨_, rfl, rfl, _, rfl, ite2 (fun e => absurd e (by decide +kernel)) (fun _ => ?_)⟩
    refine ⟨_, rfl, (by show 2 ≤ sizeLine; decide), fun y65 n65 => ?_⟩
    have tp65 := tp_new (K := K) (xs := [(.str "index"), (.str "set_index")]) n65 (.cons (.str _) (.cons (.str _) .nil))
    have ob65 := sqt_new (K := K) (xs := [(.str "index"), (.str "set_index")]) n65
    have m65 := same_upd (o := HO.tup [(.str "index"), (.str "set_index")]) n65
    replace hs := sqt_same m65 hs
    replace hy := tp_same m65 hy
    replace hv := tp_same m65 hv
    replace t63 := m65 _ _ t63
    replace h63 := tp_same m65 h63
    have sm66 := Same.tr sm64 m65
    refine ⟨_, _, rfl, .inr ob65, rfl, rfl, _, rfl, ite2 (fun e => absurd e (by decide +kernel)) (fun _ => ?_)⟩
    refine ⟨_, rfl, _, _, _, (.str (S s1)), rfl, rfl, (SqL.of t63), rfl, _, _, _, rfl, rfl, rfl, (by simp only [List.length_append, List.length_cons, List.length_nil, LIM_eq] at hl ⊢; omega), _, rfl, _, _, _, (.str (S x)), rfl, rfl, hs, rfl, _, _, _, rfl, rfl, rfl, (by simp only [List.length_append, List.length_cons, List.length_nil, LIM_eq] at hl ⊢; omega), ?_⟩
    refine ⟨_, rfl, rfl, _, rfl, ite2 (fun _ => ?_) (fun e => absurd (by decide +kernel) e)⟩
    refine ⟨_, rfl, _, rfl, _, rfl, _, _, _, v63, rfl, rfl, (SqL.of t63), rfl, _, rfl, _, _, _, (.str (S x)), rfl, rfl, hs, rfl, (by show 4 ≤ sizeLine; decide), fun y67 n67 => ?_⟩
    have tp67 := tp_new (K := K) (xs := [(.str "field"), (.int (at_ + (len s1))), v63, (.str (S x))]) n67 (.cons (.str _) (.cons (.int _) (.cons h63 (.cons (.str _) .nil))))
    have ob67 := sqt_new (K := K) (xs := [(.str "field"), (.int (at_ + (len s1))), v63, (.str (S x))]) n67
    have m67 := same_upd (o := HO.tup [(.str "field"), (.int (at_ + (len s1))), v63, (.str (S x))]) n67
    replace hs := sqt_same m67 hs
    replace hy := tp_same m67 hy
    replace hv := tp_same m67 hv
    replace t63 := m67 _ _ t63
    replace h63 := tp_same m67 h63
    replace ob65 := sqt_same m67 ob65
    replace tp65 := tp_same m67 tp65
    have sm68 := Same.tr sm66 m67
    refine ⟨(by show 2 ≤ sizeLine; decide), fun y69 n69 => ?_⟩
    exact q _ _ _ (Same.ly sm68 n69) upd_same (tp_same (same_upd n69) tp67)
  | @invoke _ l _ es _ _ s1 l1 s2 es1 x hm hn w1 w2 =>
    obtain ⟨q0, x, y, z, u, rfl, hs, hx, hy, hz, hu⟩ := tp_4 hv
    cases tp_int hx
    cases tp_str hz
    refine ⟨_, rfl, _, _, _, (.str "invoke"), rfl, rfl, hs, rfl, ?_⟩
    refine ⟨_, rfl, rfl, _, rfl, ite2 (fun e => absurd e (by decide +kernel)) (fun _ => ?_)⟩
    refine ⟨_, rfl, rfl, _, rfl, ite2 (fun e => absurd e (by decide +kernel)) (fun _ => ?_)⟩
    refine ⟨_, rfl, _, _, _, y, rfl, rfl, hs, rfl, _, rfl, _, _, _, _, _, _, _, rfl, hy, w1, (by simp only [List.length_append, List.length_cons, List.length_nil, LIM_eq] at hl ⊢; omega), fun H70 y70 v70 m70 t70 h70 => ?_⟩
    replace hs := sqt_same m70 hs
    replace hy := tp_same m70 hy
    replace hu := tp_same m70 hu
    replace hv := tp_same m70 hv
    have sm71 := m70
    refine ⟨_, rfl, _, rfl, _, _, _, (.str (S s1)), rfl, rfl, (SqL.of t70), rfl, _, _, rfl, (by simp only [List.length_append, List.length_cons, List.length_nil, LIM_eq] at hl ⊢; omega), rfl, _, _, rfl, rfl, ?_⟩
    refine ⟨_, rfl, rfl, _, rfl, ite2 (fun e => absurd e (by decide +kernel)) (fun _ => ?_)⟩
    refine ⟨_, rfl, (by show 2 ≤ sizeLine; decide), fun y72 n72 => ?_⟩
    have tp72 := tp_new (K := K) (xs := [(.str "index"), (.str "set_index")]) n72 (.cons (.str _) (.cons (.str _) .nil))
    have ob72 := sqt_new (K := K) (xs := [(.str "index"), (.str "set_index")]) n72
    have m72 := same_upd (o := HO.tup [(.str "index"), (.str "set_index")]) n72
    replace hs := sqt_same m72 hs
    replace hy := tp_same m72 hy
    replace hu := tp_same m72 hu
    replace hv := tp_same m72 hv
    replace t70 := m72 _ _ t70
    replace h70 := tp_same m72 h70
    have sm73 := Same.tr sm71 m72
    refine ⟨_, _, rfl, .inr ob72, rfl, rfl, _, rfl, ite2 (fun e => absurd e (by decide +kernel)) (fun _ => ?_)⟩
    refine ⟨_, rfl, _, _, _, (.str (S s1)), rfl, rfl, (SqL.of t70), rfl, _, _, _, rfl, rfl, rfl, (by simp only [List.length_append, List.length_cons, List.length_nil, LIM_eq] at hl ⊢; omega), _, rfl, _, _, _, (.str (S x)), rfl, rfl, hs, rfl, _, _, _, rfl, rfl, rfl, (by simp only [List.length_append, List.length_cons, List.length_nil, LIM_eq] at hl ⊢; omega), ?_⟩
    refine ⟨_, rfl, rfl, _, rfl, ite2 (fun e => absurd e (by decide +kernel)) (fun _ => ?_)⟩
    refine ⟨_, rfl, rfl, _, rfl, ite2 (fun _ => ?_) (fun e => absurd (by decide +kernel) e)⟩
    refine ⟨_, rfl, _, _, _, u, rfl, rfl, hs, rfl, _, rfl, _, rfl, _, _, rfl, (by simp only [List.length_append, List.length_cons, List.length_nil, LIM_eq] at hl ⊢; omega), rfl, _, _, rfl, rfl, _, _, rfl, rfl, _, _, _, _, _, _, _, rfl, hu, ⟨_, _, rfl, rfl, (by omega), w2⟩, (by simp only [List.length_append, List.length_cons, List.length_nil, LIM_eq] at hl ⊢; omega), fun H74 y74 v74 m74 t74 h74 => ?_⟩
    replace hs := sqt_same m74 hs
    replace hy := tp_same m74 hy
    replace hu := tp_same m74 hu
    replace hv := tp_same m74 hv
    replace t70 := m74 _ _ t70
    replace h70 := tp_same m74 h70
    replace ob72 := sqt_same m74 ob72
    replace tp72 := tp_same m74 tp72
    have sm75 := Same.tr sm73 m74
    refine ⟨_, rfl, _, _, _, rfl, rfl, rfl, (by simp only [List.length_append, List.length_cons, List.length_nil, LIM_eq] at hl ⊢; omega), _, rfl, _, _, _, (.str (S s2)), rfl, rfl, (SqL.of t74), rfl, _, _, _, rfl, rfl, rfl, (by simp only [List.length_append, List.length_cons, List.length_nil, LIM_eq] at hl ⊢; omega), _, _, _, rfl, rfl, rfl, (by simp only [List.length_append, List.length_cons, List.length_nil, LIM_eq] at hl ⊢; omega), _, rfl, _, rfl, _, _, _, v70, rfl, rfl, (SqL.of t70), rfl, _, rfl, _, _, _, (.str (S x)), rfl, rfl, hs, rfl, _, rfl, _, _, _, v74, rfl, rfl, (SqL.of t74), rfl, (by show 5 ≤ sizeLine; decide), fun y76 n76 => ?_⟩
    have tp76 := tp_new (K := K) (xs := [(.str "invoke"), (.int (at_ + (len s1))), v70, (.str (S x)), v74]) n76 (.cons (.str _) (.cons (.int _) (.cons h70 (.cons (.str _) (.cons h74 .nil)))))
    have ob76 := sqt_new (K := K) (xs := [(.str "invoke"), (.int (at_ + (len s1))), v70, (.str (S x)), v74]) n76
    have m76 := same_upd (o := HO.tup [(.str "invoke"), (.int (at_ + (len s1))), v70, (.str (S x)), v74]) n76
    replace hs := sqt_same m76 hs
    replace hy := tp_same m76 hy
    replace hu := tp_same m76 hu
    replace hv := tp_same m76 hv
    replace t70 := m76 _ _ t70
    replace h70 := tp_same m76 h70
    replace ob72 := sqt_same m76 ob72
    replace tp72 := tp_same m76 tp72
    replace t74 := m76 _ _ t74
    replace h74 := tp_same m76 h74
    have sm77 := Same.tr sm75 m76
    refine ⟨(by show 2 ≤ sizeLine; decide), fun y78 n78 => ?_⟩
    exact q _ _ _ (Same.ly sm77 n78) upd_same (tp_same (same_upd n78) tp76)
  | @setField _ l _ e _ _ s1 l1 s2 e1 w1 w2 =>
    obtain ⟨q0, x, y, z, u, rfl, hs, hx, hy, hz, hu⟩ := tp_4 hv
    cases tp_int hx
    cases tp_str hz
    refine ⟨_, rfl, _, _, _, (.str "set_field"), rfl, rfl, hs, rfl, ?_⟩
    refine ⟨_, rfl, rfl, _, rfl, ite2 (fun e => absurd e (by decide +kernel)) (fun _ => ?_)⟩
    refine ⟨_, rfl, rfl, _, rfl, ite2 (fun e => absurd e (by decide +kernel)) (fun _ => ?_)⟩
    refine ⟨_, rfl, _, _, _, y, rfl, rfl, hs, rfl, _, rfl, _, _, _, _, _, _, _, rfl, hy, w1, (by simp only [List.length_append, List.length_cons, List.length_nil, LIM_eq] at hl ⊢; omega), fun H79 y79 v79 m79 t79 h79 => ?_⟩
    replace hs := sqt_same m79 hs
    replace hy := tp_same m79 hy
    replace hu := tp_same m79 hu
    replace hv := tp_same m79 hv
    have sm80 := m79
    refine ⟨_, rfl, _, rfl, _, _, _, (.str (S s1)), rfl, rfl, (SqL.of t79), rfl, _, _, rfl, (by simp only [List.length_append, List.length_cons, List.length_nil, LIM_eq] at hl ⊢; omega), rfl, _, _, rfl, rfl, ?_⟩
    refine ⟨_, rfl, rfl, _, rfl, ite2 (fun e => absurd e (by decide +kernel)) (fun _ => ?_)⟩
    refine ⟨_, rfl, (by show 2 ≤ sizeLine; decide), fun y81 n81 => ?_⟩
    have tp81 := tp_new (K := K) (xs := [(.str "index"), (.str "set_index")]) n81 (.cons (.str _) (.cons (.str _) .nil))
    have ob81 := sqt_new (K := K) (xs := [(.str "index"), (.str "set_index")]) n81
    have m81 := same_upd (o := HO.tup [(.str "index"), (.str "set_index")]) n81
    replace hs := sqt_same m81 hs
    replace hy := tp_same m81 hy
    replace hu := tp_same m81 hu
    replace hv := tp_same m81 hv
    replace t79 := m81 _ _ t79
    replace h79 := tp_same m81 h79
    have sm82 := Same.tr sm80 m81
    refine ⟨_, _, rfl, .inr ob81, rfl, rfl, _, rfl, ite2 (fun e => absurd e (by decide +kernel)) (fun _ => ?_)⟩
    refine ⟨_, rfl, _, _, _, (.str (S s1)), rfl, rfl, (SqL.of t79), rfl, _, _, _, rfl, rfl, rfl, (by simp only [List.length_append, List.length_cons, List.length_nil, LIM_eq] at hl ⊢; omega), _, rfl, _, _, _, (.str (S (cs "x"))), rfl, rfl, hs, rfl, _, _, _, rfl, rfl, rfl, (by simp only [List.length_append, List.length_cons, List.length_nil, LIM_eq] at hl ⊢; omega), ?_⟩
    refine ⟨_, rfl, rfl, _, rfl, ite2 (fun e => absurd e (by decide +kernel)) (fun _ => ?_)⟩
    refine ⟨_, rfl, rfl, _, rfl, ite2 (fun e => absurd e (by decide +kernel)) (fun _ => ?_)⟩
    refine ⟨_, rfl, _, _, _, u, rfl, rfl, hs, rfl, _, rfl, _, rfl, _, _, rfl, (by simp only [List.length_append, List.length_cons, List.length_nil, LIM_eq] at hl ⊢; omega), rfl, _, _, rfl, rfl, _, _, rfl, rfl, _, _, _, _, _, _, _, rfl, hu, w2, (by simp only [List.length_append, List.length_cons, List.length_nil, LIM_eq] at hl ⊢; omega), fun H83 y83 v83 m83 t83 h83 => ?_⟩
    replace hs := sqt_same m83 hs
    replace hy := tp_same m83 hy
    replace hu := tp_same m83 hu
    replace hv := tp_same m83 hv
    replace t79 := m83 _ _ t79
    replace h79 := tp_same m83 h79
    replace ob81 := sqt_same m83 ob81
    replace tp81 := tp_same m83 tp81
    have sm84 := Same.tr sm82 m83
    refine ⟨_, rfl, _, _, _, rfl, rfl, rfl, (by simp only [List.length_append, List.length_cons, List.length_nil, LIM_eq] at hl ⊢; omega), _, rfl, _, _, _, (.str (S s2)), rfl, rfl, (SqL.of t83), rfl, _, _, _, rfl, rfl, rfl, (by simp only [List.length_append, List.length_cons, List.length_nil, LIM_eq] at hl ⊢; omega), _, rfl, _, rfl, _, _, _, v79, rfl, rfl, (SqL.of t79), rfl, _, rfl, _, _, _, (.str (S (cs "x"))), rfl, rfl, hs, rfl, _, rfl, _, _, _, v83, rfl, rfl, (SqL.of t83), rfl, (by show 5 ≤ sizeLine; decide), fun y85 n85 => ?_⟩
    have tp85 := tp_new (K := K) (xs := [(.str "set_field"), (.int (at_ + (len s1))), v79, (.str (S (cs "x"))), v83]) n85 (.cons (.str _) (.cons (.int _) (.cons h79 (.cons (.str _) (.cons h83 .nil)))))
    have ob85 := sqt_new (K := K) (xs := [(.str "set_field"), (.int (at_ + (len s1))), v79, (.str (S (cs "x"))), v83]) n85
    have m85 := same_upd (o := HO.tup [(.str "set_field"), (.int (at_ + (len s1))), v79, (.str (S (cs "x"))), v83]) n85
    replace hs := sqt_same m85 hs
    replace hy := tp_same m85 hy
    replace hu := tp_same m85 hu
    replace hv := tp_same m85 hv
    replace t79 := m85 _ _ t79
    replace h79 := tp_same m85 h79
    replace ob81 := sqt_same m85 ob81
    replace tp81 := tp_same m85 tp81
    replace t83 := m85 _ _ t83
    replace h83 := tp_same m85 h83
    have sm86 := Same.tr sm84 m85
    refine ⟨(by show 2 ≤ sizeLine; decide), fun y87 n87 => ?_⟩
    exact q _ _ _ (Same.ly sm86 n87) upd_same (tp_same (same_upd n87) tp85)
  | leaf h0 =>
    obtain ⟨kk, fs, rfl, z1, z2⟩ := leaf_head h0
    exact absurd (hk.symm.trans (show sfK kk = false from z2)) (by decide)
  | unary => exact absurd hk (show ¬ (sfK "unary" = true) by decide +kernel)
  | binary => exact absurd hk (show ¬ (sfK "binary" = true) by decide +kernel)
  | both => exact absurd hk (show ¬ (sfK "both" = true) by decide +kernel)
  | either => exact absurd hk (show ¬ (sfK "either" = true) by decide +kernel)
  | list => exact absurd hk (show ¬ (sfK "list" = true) by decide +kernel)
  | map => exact absurd hk (show ¬ (sfK "map" = true) by decide +kernel)
  | fn w1 =>
    cases w1 with
    | mk hj wb => exact absurd hk (show ¬ (sfK "function" = true) by decide +kernel)
end
end My
namespace My
open PySem L2 SX CwR
open C8 (pss_cut tCut cutS_slice pe_gc)
section
variable {X : Cx} {rest : List Stmt} {u : TS}
/-- the number in brackets is given out: behind the row a token is out -/
theorem pss_setIx {i : Nat} {x : Str} {a : Expr} {ta : TE} {r : R2} {z : Int} {j : Nat} {p0 p1 pos pos' : Pos} (hN : X.N.Nodup) (hi : X.N[i]? = some x) (hx : Loc X.env.scope x) (hr : IxR X r) (ha : PE X a ta) (hp : PlainIx (.Constant (.int z) j p0)) (h2 : PSsT X rest u)
    (hs : swapsWith (.Subscript a (.Constant (.int z) j p0) p1) (some (.Name x pos')) pos.line X.env = pure false := by rfl) (hf : X.fn x = true ∨ X.env.scope.names.lookup x = some .local := by first | exact .inl rfl | exact .inr rfl | assumption) :
    PSs X (.Assign [.Name x pos'] (.Subscript a (.Constant (.int z) j p0) p1) pos :: rest) (tSeq (tAsg (tOp r ta (tC (.int z))) (gName i)) u) := by
  refine ⟨fun pins s σ H D I h => ?_⟩
  refine wpAny_execs_cons (wpAny_Assign_Name (PyProof.Rows.Subscript_ (thn (ha.run pins s σ H _ I h) fun v s1 ⟨y, H1, I1, r1, q1⟩ => ?_)) hs)
  refine wpAny_Constant_int ?_
  refine wpAny_mono (PySem.wpAny_toks (hr a _ pins _ σ H1 y (.int z) v (.int z s1.toks) _ (I1.tok (s1.toks + 1)) r1 ⟨_, rfl⟩ q1 (hp _ _))) (fun v2 s2 q => ?_) fun _ _ z => z.2
  obtain ⟨hk, y2, H2, I3, r3, q3⟩ := q
  have hk1 : s1.toks + 1 ≤ s2.toks := hk
  refine wpAny_mono (PySem.wpAny_toks (store_ok (Q := fun _ s3 => Inv X pins (σ.set i (some y2)) H2 s3) I3 hN hi hx r3 (fun _ I4 => I4) hf)) (fun _ s3 q => ?_) fun _ _ z => z.2
  have hk2 : s2.toks ≤ s3.toks := q.1
  exact h2 pins s3 _ H2 D (by omega) q.2 q3
theorem pst_set {i : Nat} {x : Str} {e : Expr} {te : TE} {pos pos' : Pos} (hN : X.N.Nodup) (hi : X.N[i]? = some x) (hx : Loc X.env.scope x) (he : PET X e te)
    (hs : swapsWith e (some (.Name x pos')) pos.line X.env = pure false := by rfl) (hf : X.fn x = true ∨ X.env.scope.names.lookup x = some .local := by first | exact .inl rfl | exact .inr rfl | assumption) :
    PST X (.Assign [.Name x pos'] e pos) (tAsg te (gName i)) := by
  intro pins s σ H D h0 I h
  refine wpAny_Assign_Name (thn (he pins s σ H _ h0 I h) fun v s1 ⟨y, H1, I1, r1, q1⟩ => ?_) hs
  exact store_ok I1 hN hi hx r1 (fun s2 I2 => ⟨_, H1, I2, q1⟩) hf
end
theorem tx_rep : ∀ x ∈ texts7, (S x).length + ((S x).length + 1) * ("\\\\" : Str).length ≤ 16777216 ∧ (Txt.replace (S x) "\\" "\\\\").length + ((Txt.replace (S x) "\\" "\\\\").length + 1) * ("\\\"" : Str).length ≤ 16777216 ∧
    (Txt.replace (Txt.replace (S x) "\\" "\\\\") "\"" "\\\"").length + ((Txt.replace (Txt.replace (S x) "\\" "\\\\") "\"" "\\\"").length + 1) * ("\\n" : Str).length ≤ 16777216 ∧
    Txt.replace (Txt.replace (Txt.replace (S x) "\\" "\\\\") "\"" "\\\"") "\n" "\\n" = S (escT x) := by decide +kernel
theorem int_log {i : Int} (h0 : 0 ≤ i) (h1 : i < 1000000000000) : i.natAbs.log2 < 1920 := by
  have h : i.natAbs < 2 ^ 40 := by omega
  by_cases e : i.natAbs = 0
  · rw [e]
    decide
  · exact Nat.lt_trans ((Nat.log2_lt e).mpr h) (by decide)
section
variable {P : Program} {w : World} {K : PySem.W.Frag} {mg : Str → Option Value} {base : Heap} {a : Nat → Addr} {d : Nat → FuncData}
/-! ### _law_write -/
theorem scWrite : FnScope ["term", "at", "kind", "spelled", "told"] ["term", "at"] (defScope sWrite) := ⟨rfl, rfl, rfl, by decide +kernel, rfl, by decide +kernel, by decide +kernel⟩
theorem ok_write {R S0 : Rl} {k : Nat} (L : TW K mg a d) (B : Bl mg) (G_law_inner : FnOk P w K mg base CX0 k (a 0) (d 0) ["term", "at"] (spW K (InnW R))) (G_law_list : FnOk P w K mg base CX0 k (a 1) (d 1) ["terms", "at"] (spW K (LsR R))) (G_law_between : FnOk P w K mg base CX0 k (a 3) (d 3) ["term", "at"] (spW K (BtR R S0))) (G_law_map : FnOk P w K mg base CX0 k (a 4) (d 4) ["term", "at"] (spW K (MpR R))) (G_law_suffixed : FnOk P w K mg base CX0 k (a 5) (d 5) ["term", "at"] (spW K (SfR R S0))) (G_law_body : FnOk P w K mg base CX0 k (a 6) (d 6) ["term", "at", "names"] (spBody K S0)) : FnOk P w K mg base CX0 (k + 1) (a 2) (d 2) ["term", "at"] (spW K (ExF R S0)) := by
  refine L.f_law_write.ok scWrite spW_len (fun cdv A outer s H vs Q E hr h => ?_)
  obtain ⟨v, d0, a0, b0, at_, s0, d0', rfl, hv, w, hl, q⟩ := h
  refine ⟨_, pss_setIx (i := 2) scWrite.nd rfl (.inl rfl) ix_tup (pv 0) (fun _ _ => rfl)
      (psst_cons (PST.of (ps_if (pt_cmpR op_eq (pv 2) pe_str (nomark _))
        (pss_one (ps_ret (pe_lst (pa_cons (pe_ix ix_tup (pv 0) pe_int (fun _ _ => rfl)) (pa_cons (pe_tup (pa_cons pe_str (pa_cons (pv 1) (pa_cons (pe_ix ix_tup (pv 0) pe_int (fun _ _ => rfl)) pa_nil)))) pa_nil)))))
        pss_nil))
      (psst_cons (PST.of (ps_if (pt_cmpR op_eq (pv 2) pe_str (nomark _))
        (pss_one (ps_ret (pe_lst (pa_cons (pe_callTy call_str_int (by rfl) B.str (by decide +kernel) (pa_cons (pe_ix ix_tup (pv 0) pe_int (fun _ _ => rfl)) pa_nil)) (pa_cons (pv 0) pa_nil)))))
        pss_nil))
      (psst_cons (PST.of (ps_if (pt_cmpR op_eq (pv 2) pe_str (nomark _))
        (pss_one (ps_ret (pe_lst (pa_cons (pe_lit (cs "null") (by decide +kernel)) (pa_cons (pv 0) pa_nil)))))
        pss_nil))
      (psst_cons (PST.of (ps_if (pt_cmpR op_eq (pv 2) pe_str (nomark _))
        (pss_one (ps_ret (pe_lst (pa_cons (pe_ix ix_list (pe_lst (pa_cons (pe_lit (cs "false") (by decide +kernel)) (pa_cons (pe_lit (cs "true") (by decide +kernel)) pa_nil))) (pe_callTy call_int1 (by rfl) B.int (by decide +kernel) (pa_cons (pe_ix ix_tup (pv 0) pe_int (fun _ _ => rfl)) pa_nil)) (fun _ _ => rfl)) (pa_cons (pv 0) pa_nil)))))
        pss_nil))
      (psst_cons (pst_if (pt_cmpR op_eq (pv 2) pe_str (nomark _))
        (psst_cons (pst_set (i := 3) scWrite.nd rfl (.inl rfl) (pet_replT (pet_replT (pet_replC (pe_ix ix_tup (pv 0) pe_int (fun _ _ => rfl))))))
        (psst_one (PST.of (ps_ret (pe_lst (pa_cons (pe_op op_catE (pe_op op_catE (pe_lit [34] (by decide +kernel)) (pv 3)) (pe_lit [34] (by decide +kernel))) (pa_cons (pv 0) pa_nil)))))))
        psst_nil)
      (PSsT.of (pss_cons (ps_if (pt_cmpR op_eq (pv 2) pe_str (nomark _))
        (pss_cons (ps_set (i := 4) scWrite.nd rfl (.inl rfl) (pe_call G_law_inner (hr.mono (by omega)) (by rfl) L.g_law_inner L.f_law_inner.kp L.b_law_inner .nil pass0 (pa_cons (pe_ix ix_tup (pv 0) pe_int (fun _ _ => rfl)) (pa_cons (pe_op op_add (pe_op op_add (pv 1) (pe_callB call_lenE (by rfl) B.len PySem.boot_len (pa_cons (pe_ix ix_tup (pv 0) pe_int (fun _ _ => rfl)) pa_nil))) pe_int) pa_nil))))
        (pss_one (ps_ret (pe_lst (pa_cons (pe_op op_catE (pe_op op_catE (pe_ix ix_tup (pv 0) pe_int (fun _ _ => rfl)) (pe_lit [32] (by decide +kernel))) (pe_ix ix_list (pv 4) pe_int (fun _ _ => rfl))) (pa_cons (pe_tup (pa_cons pe_str (pa_cons (pv 1) (pa_cons (pe_ix ix_tup (pv 0) pe_int (fun _ _ => rfl)) (pa_cons (pe_ix ix_list (pv 4) pe_int (fun _ _ => rfl)) pa_nil))))) pa_nil))))))
        pss_nil)
      (pss_cons (ps_if (pt_cmpR op_in_seq (pv 2) (pe_tup (pa_cons pe_str (pa_cons pe_str (pa_cons pe_str pa_nil)))) (by rfl))
        (pss_one (ps_ret (pe_call G_law_between (hr.mono (by omega)) (by rfl) L.g_law_between L.f_law_between.kp L.b_law_between .nil pass0 (pa_cons (pv 0) (pa_cons (pv 1) pa_nil)))))
        pss_nil)
      (pss_cons (ps_if (pt_cmpR op_eq (pv 2) pe_str (nomark _))
        (pss_cons (ps_set (i := 4) scWrite.nd rfl (.inl rfl) (pe_call G_law_list (hr.mono (by omega)) (by rfl) L.g_law_list L.f_law_list.kp L.b_law_list .nil pass0 (pa_cons (pe_ix ix_tup (pv 0) pe_int (fun _ _ => rfl)) (pa_cons (pe_op op_add (pv 1) pe_int) pa_nil))))
        (pss_one (ps_ret (pe_lst (pa_cons (pe_op op_catE (pe_op op_catE (pe_lit [91] (by decide +kernel)) (pe_ix ix_list (pv 4) pe_int (fun _ _ => rfl))) (pe_lit [93] (by decide +kernel))) (pa_cons (pe_tup (pa_cons pe_str (pa_cons (pe_ix ix_list (pv 4) pe_int (fun _ _ => rfl)) pa_nil))) pa_nil))))))
        pss_nil)
      (pss_cons (ps_if (pt_cmpR op_eq (pv 2) pe_str (nomark _))
        (pss_one (ps_ret (pe_call G_law_map (hr.mono (by omega)) (by rfl) L.g_law_map L.f_law_map.kp L.b_law_map .nil pass0 (pa_cons (pv 0) (pa_cons (pv 1) pa_nil)))))
        pss_nil)
      (pss_cons (ps_if (pt_cmpR op_eq (pv 2) pe_str (nomark _))
        (pss_cons (ps_set (i := 4) scWrite.nd rfl (.inl rfl) (pe_call G_law_body (hr.mono (by omega)) (by rfl) L.g_law_body L.f_law_body.kp L.b_law_body .nil pass0 (pa_cons (pv 0) (pa_cons (pe_op op_add (pv 1) pe_int) (pa_cons (pe_ix ix_tup (pv 0) pe_int (fun _ _ => rfl)) pa_nil)))))
        (pss_one (ps_ret (pe_lst (pa_cons (pe_op op_catE (pe_lit (cs "fun") (by decide +kernel)) (pe_ix ix_list (pv 4) pe_int (fun _ _ => rfl))) (pa_cons (pe_tup (pa_cons pe_str (pa_cons (pv 1) (pa_cons (pe_ix ix_tup (pv 0) pe_int (fun _ _ => rfl)) (pa_cons (pe_ix ix_tup (pv 0) pe_int (fun _ _ => rfl)) (pa_cons (pe_ix ix_list (pv 4) pe_int (fun _ _ => rfl)) pa_nil)))))) pa_nil))))))
        pss_nil)
      (pss_one (ps_ret (pe_call G_law_suffixed (hr.mono (by omega)) (by rfl) L.g_law_suffixed L.f_law_suffixed.kp L.b_law_suffixed .nil pass0 (pa_cons (pv 0) (pa_cons (pv 1) pa_nil)))))))))))))))), ?_⟩
  cases w with
  | leaf w =>
    cases w with
    | @name x _ hm =>
      obtain ⟨q0, x, y, rfl, hs, hx, hy⟩ := tp_2 hv
      cases tp_int hx
      cases tp_str hy
      refine ⟨_, rfl, _, _, _, (.str "name"), rfl, rfl, hs, rfl, ?_⟩
      refine ⟨_, rfl, rfl, _, rfl, ite2 (fun _ => ?_) (fun e => absurd (by decide +kernel) e)⟩
      refine ⟨_, rfl, _, _, _, (.str (S s0)), rfl, rfl, hs, rfl, _, rfl, _, rfl, _, _, _, (.str (S s0)), rfl, rfl, hs, rfl, (by show 3 ≤ sizeLine; decide), fun y1 n1 => ?_⟩
      have tp1 := tp_new (K := K) (xs := [(.str "name"), (.int at_), (.str (S s0))]) n1 (.cons (.str _) (.cons (.int _) (.cons (.str _) .nil)))
      have ob1 := sqt_new (K := K) (xs := [(.str "name"), (.int at_), (.str (S s0))]) n1
      have m1 := same_upd (o := HO.tup [(.str "name"), (.int at_), (.str (S s0))]) n1
      replace hs := sqt_same m1 hs
      replace hv := tp_same m1 hv
      have sm2 := m1
      refine ⟨(by show 2 ≤ sizeLine; decide), fun y3 n3 => ?_⟩
      exact q _ _ _ (Same.ly sm2 n3) upd_same (tp_same (same_upd n3) tp1)
    | @int i _ h0 h1 =>
      obtain ⟨q0, x, rfl, hs, hx⟩ := tp_1 hv
      cases tp_int hx
      refine ⟨_, rfl, _, _, _, (.str "int"), rfl, rfl, hs, rfl, ?_⟩
      refine ⟨_, rfl, rfl, _, rfl, ite2 (fun e => absurd e (by decide +kernel)) (fun _ => ?_)⟩
      refine ⟨_, rfl, rfl, _, rfl, ite2 (fun _ => ?_) (fun e => absurd (by decide +kernel) e)⟩
      refine ⟨_, rfl, q0, _, _, (.int i), rfl, rfl, hs, rfl, _, rfl, int_log h0 h1, _, rfl, (by show 2 ≤ sizeLine; decide), fun y9 n9 => ?_⟩
      rw [show (V.str (toString i)) = V.str (S (decC i)) from congrArg V.str (S_tl _).symm]
      exact q _ _ _ (same_upd n9) upd_same (tp_same (same_upd n9) hv)
    | @text x _ hm =>
      obtain ⟨q0, x, rfl, hs, hx⟩ := tp_1 hv
      cases tp_str hx
      obtain ⟨z1, z2⟩ := tx_ok _ hm
      refine ⟨_, rfl, _, _, _, (.str "text"), rfl, rfl, hs, rfl, ?_⟩
      refine ⟨_, rfl, rfl, _, rfl, ite2 (fun e => absurd e (by decide +kernel)) (fun _ => ?_)⟩
      refine ⟨_, rfl, rfl, _, rfl, ite2 (fun e => absurd e (by decide +kernel)) (fun _ => ?_)⟩
      refine ⟨_, rfl, rfl, _, rfl, ite2 (fun e => absurd e (by decide +kernel)) (fun _ => ?_)⟩
      refine ⟨_, rfl, rfl, _, rfl, ite2 (fun e => absurd e (by decide +kernel)) (fun _ => ?_)⟩
      refine ⟨_, rfl, rfl, _, rfl, ite2 (fun _ => ?_) (fun e => absurd (by decide +kernel) e)⟩
      obtain ⟨r1, r2, r3, r4⟩ := tx_rep x hm
      refine ⟨_, rfl, q0, _, _, (.str (S x)), rfl, rfl, hs, rfl, _, rfl, r1, _, rfl, r2, _, rfl, r3, ?_⟩
      rw [r4]
      refine ⟨_, rfl, _, _, _, rfl, rfl, rfl, (by simp only [List.length_append, List.length_cons, List.length_nil, LIM_eq] at hl ⊢; omega), _, _, _, rfl, rfl, rfl, (by simp only [List.length_append, List.length_cons, List.length_nil, LIM_eq] at hl ⊢; omega), _, rfl, (by show 2 ≤ sizeLine; decide), fun y4 n4 => ?_⟩
      exact q _ _ _ (Same.ly Same.rf n4) upd_same (tp_same (same_upd n4) hv)
    | null =>
      obtain ⟨q0, rfl, hs⟩ := tp_0 hv
      refine ⟨_, rfl, _, _, _, (.str "null"), rfl, rfl, hs, rfl, ?_⟩
      refine ⟨_, rfl, rfl, _, rfl, ite2 (fun e => absurd e (by decide +kernel)) (fun _ => ?_)⟩
      refine ⟨_, rfl, rfl, _, rfl, ite2 (fun e => absurd e (by decide +kernel)) (fun _ => ?_)⟩
      refine ⟨_, rfl, rfl, _, rfl, ite2 (fun _ => ?_) (fun e => absurd (by decide +kernel) e)⟩
      refine ⟨_, rfl, (by show 2 ≤ sizeLine; decide), fun y5 n5 => ?_⟩
      exact q _ _ _ (Same.ly Same.rf n5) upd_same (tp_same (same_upd n5) hv)
    | @bool bb =>
      obtain ⟨q0, x, rfl, hs, hx⟩ := tp_1 hv
      cases tp_bl hx
      cases bb with
      | true =>
        refine ⟨_, rfl, _, _, _, (.str "bool"), rfl, rfl, hs, rfl, ?_⟩
        refine ⟨_, rfl, rfl, _, rfl, ite2 (fun e => absurd e (by decide +kernel)) (fun _ => ?_)⟩
        refine ⟨_, rfl, rfl, _, rfl, ite2 (fun e => absurd e (by decide +kernel)) (fun _ => ?_)⟩
        refine ⟨_, rfl, rfl, _, rfl, ite2 (fun e => absurd e (by decide +kernel)) (fun _ => ?_)⟩
        refine ⟨_, rfl, rfl, _, rfl, ite2 (fun _ => ?_) (fun e => absurd (by decide +kernel) e)⟩
        refine ⟨(by show 2 ≤ sizeLine; decide), fun y8 n8 => ?_⟩
        have hs8 := sqt_same (same_upd (o := HO.lst [.str (S (cs "false")), .str (S (cs "true"))]) n8) hs
        have hv8 := tp_same (same_upd (o := HO.lst [.str (S (cs "false")), .str (S (cs "true"))]) n8) hv
        refine ⟨_, rfl, q0, _, _, (.bl true), rfl, rfl, hs8, rfl, .inr ⟨_, rfl, _, _, _, (.str (S (cs "true"))), rfl, rfl, SqL.of upd_same, rfl, _, rfl, (by show 2 ≤ sizeLine; decide), fun y9 n9 => ?_⟩⟩
        exact q _ _ _ (Same.ly (same_upd n8) n9) upd_same (tp_same (same_upd n9) hv8)
      | false =>
        refine ⟨_, rfl, _, _, _, (.str "bool"), rfl, rfl, hs, rfl, ?_⟩
        refine ⟨_, rfl, rfl, _, rfl, ite2 (fun e => absurd e (by decide +kernel)) (fun _ => ?_)⟩
        refine ⟨_, rfl, rfl, _, rfl, ite2 (fun e => absurd e (by decide +kernel)) (fun _ => ?_)⟩
        refine ⟨_, rfl, rfl, _, rfl, ite2 (fun e => absurd e (by decide +kernel)) (fun _ => ?_)⟩
        refine ⟨_, rfl, rfl, _, rfl, ite2 (fun _ => ?_) (fun e => absurd (by decide +kernel) e)⟩
        refine ⟨(by show 2 ≤ sizeLine; decide), fun y8 n8 => ?_⟩
        have hs8 := sqt_same (same_upd (o := HO.lst [.str (S (cs "false")), .str (S (cs "true"))]) n8) hs
        have hv8 := tp_same (same_upd (o := HO.lst [.str (S (cs "false")), .str (S (cs "true"))]) n8) hv
        refine ⟨_, rfl, q0, _, _, (.bl false), rfl, rfl, hs8, rfl, .inr ⟨_, rfl, _, _, _, (.str (S (cs "false"))), rfl, rfl, SqL.of upd_same, rfl, _, rfl, (by show 2 ≤ sizeLine; decide), fun y9 n9 => ?_⟩⟩
        exact q _ _ _ (Same.ly (same_upd n8) n9) upd_same (tp_same (same_upd n9) hv8)
  | @unary _ e _ _ s1 e1 x hm w1 =>
    obtain ⟨q0, x, y, z, rfl, hs, hx, hy, hz⟩ := tp_3 hv
    cases tp_int hx
    cases tp_str hy
    refine ⟨_, rfl, _, _, _, (.str "unary"), rfl, rfl, hs, rfl, ?_⟩
    refine ⟨_, rfl, rfl, _, rfl, ite2 (fun e => absurd e (by decide +kernel)) (fun _ => ?_)⟩
    refine ⟨_, rfl, rfl, _, rfl, ite2 (fun e => absurd e (by decide +kernel)) (fun _ => ?_)⟩
    refine ⟨_, rfl, rfl, _, rfl, ite2 (fun e => absurd e (by decide +kernel)) (fun _ => ?_)⟩
    refine ⟨_, rfl, rfl, _, rfl, ite2 (fun e => absurd e (by decide +kernel)) (fun _ => ?_)⟩
    refine ⟨_, rfl, rfl, _, rfl, ite2 (fun e => absurd e (by decide +kernel)) (fun _ => ?_)⟩
    refine ⟨_, rfl, rfl, _, rfl, ite2 (fun _ => ?_) (fun e => absurd (by decide +kernel) e)⟩
    refine ⟨_, rfl, _, _, _, z, rfl, rfl, hs, rfl, _, rfl, _, rfl, _, _, _, (.str (S x)), rfl, rfl, hs, rfl, _, _, rfl, (by simp only [List.length_append, List.length_cons, List.length_nil, LIM_eq] at hl ⊢; omega), rfl, _, _, rfl, rfl, _, _, rfl, rfl, _, _, _, _, _, _, _, rfl, hz, w1, (by simp only [List.length_append, List.length_cons, List.length_nil, LIM_eq] at hl ⊢; omega), fun H6 y6 v6 m6 t6 h6 => ?_⟩
    replace hz := tp_same m6 hz
    replace hs := sqt_same m6 hs
    replace hv := tp_same m6 hv
    have sm7 := m6
    refine ⟨_, rfl, _, _, _, (.str (S x)), rfl, rfl, hs, rfl, _, _, _, rfl, rfl, rfl, (by simp only [List.length_append, List.length_cons, List.length_nil, LIM_eq] at hl ⊢; omega), _, rfl, _, _, _, (.str (S s1)), rfl, rfl, (SqL.of t6), rfl, _, _, _, rfl, rfl, rfl, (by simp only [List.length_append, List.length_cons, List.length_nil, LIM_eq] at hl ⊢; omega), _, rfl, _, rfl, _, _, _, (.str (S x)), rfl, rfl, hs, rfl, _, rfl, _, _, _, v6, rfl, rfl, (SqL.of t6), rfl, (by show 4 ≤ sizeLine; decide), fun y8 n8 => ?_⟩
    have tp8 := tp_new (K := K) (xs := [(.str "unary"), (.int at_), (.str (S x)), v6]) n8 (.cons (.str _) (.cons (.int _) (.cons (.str _) (.cons h6 .nil))))
    have ob8 := sqt_new (K := K) (xs := [(.str "unary"), (.int at_), (.str (S x)), v6]) n8
    have m8 := same_upd (o := HO.tup [(.str "unary"), (.int at_), (.str (S x)), v6]) n8
    replace hz := tp_same m8 hz
    replace hs := sqt_same m8 hs
    replace hv := tp_same m8 hv
    replace t6 := m8 _ _ t6
    replace h6 := tp_same m8 h6
    have sm9 := Same.tr sm7 m8
    refine ⟨(by show 2 ≤ sizeLine; decide), fun y10 n10 => ?_⟩
    exact q _ _ _ (Same.ly sm9 n10) upd_same (tp_same (same_upd n10) tp8)
  | @binary _ l _ r _ _ s1 l1 s2 r1 x hm w1 w2 =>
    obtain ⟨q0, x, y, z, u, rfl, hs, hx, hy, hz, hu⟩ := tp_4 hv
    refine ⟨_, rfl, _, _, _, (.str "binary"), rfl, rfl, hs, rfl, ?_⟩
    refine ⟨_, rfl, rfl, _, rfl, ite2 (fun e => absurd e (by decide +kernel)) (fun _ => ?_)⟩
    refine ⟨_, rfl, rfl, _, rfl, ite2 (fun e => absurd e (by decide +kernel)) (fun _ => ?_)⟩
    refine ⟨_, rfl, rfl, _, rfl, ite2 (fun e => absurd e (by decide +kernel)) (fun _ => ?_)⟩
    refine ⟨_, rfl, rfl, _, rfl, ite2 (fun e => absurd e (by decide +kernel)) (fun _ => ?_)⟩
    refine ⟨_, rfl, rfl, _, rfl, ite2 (fun e => absurd e (by decide +kernel)) (fun _ => ?_)⟩
    refine ⟨_, rfl, rfl, _, rfl, ite2 (fun e => absurd e (by decide +kernel)) (fun _ => ?_)⟩
    refine ⟨_, rfl, (by show 3 ≤ sizeLine; decide), fun y11 n11 => ?_⟩
    have tp11 := tp_new (K := K) (xs := [(.str "binary"), (.str "both"), (.str "either")]) n11 (.cons (.str _) (.cons (.str _) (.cons (.str _) .nil)))
    have ob11 := sqt_new (K := K) (xs := [(.str "binary"), (.str "both"), (.str "either")]) n11
    have m11 := same_upd (o := HO.tup [(.str "binary"), (.str "both"), (.str "either")]) n11
    replace hs := sqt_same m11 hs
    replace hv := tp_same m11 hv
    have sm12 := m11
    refine ⟨_, _, rfl, .inr ob11, rfl, rfl, _, rfl, ite2 (fun _ => ?_) (fun e => absurd (by decide +kernel) e)⟩
    refine ⟨_, rfl, _, rfl, _, _, _, _, _, _, _, rfl, hv, ⟨.binary hm w1 w2, (show btK "binary" = true by decide +kernel)⟩, (by simp only [List.length_append, List.length_cons, List.length_nil, LIM_eq] at hl ⊢; omega), fun H13 y13 v13 m13 t13 h13 => ?_⟩
    replace hs := sqt_same m13 hs
    replace hv := tp_same m13 hv
    replace ob11 := sqt_same m13 ob11
    replace tp11 := tp_same m13 tp11
    have sm14 := Same.tr sm12 m13
    exact q _ _ _ sm14 t13 h13
  | @both _ l _ r _ _ s1 l1 s2 r1 w1 w2 =>
    obtain ⟨q0, x, y, rfl, hs, hx, hy⟩ := tp_2 hv
    refine ⟨_, rfl, _, _, _, (.str "both"), rfl, rfl, hs, rfl, ?_⟩
    refine ⟨_, rfl, rfl, _, rfl, ite2 (fun e => absurd e (by decide +kernel)) (fun _ => ?_)⟩
    refine ⟨_, rfl, rfl, _, rfl, ite2 (fun e => absurd e (by decide +kernel)) (fun _ => ?_)⟩
    refine ⟨_, rfl, rfl, _, rfl, ite2 (fun e => absurd e (by decide +kernel)) (fun _ => ?_)⟩
    refine ⟨_, rfl, rfl, _, rfl, ite2 (fun e => absurd e (by decide +kernel)) (fun _ => ?_)⟩
    refine ⟨_, rfl, rfl, _, rfl, ite2 (fun e => absurd e (by decide +kernel)) (fun _ => ?_)⟩
    refine ⟨_, rfl, rfl, _, rfl, ite2 (fun e => absurd e (by decide +kernel)) (fun _ => ?_)⟩
    refine ⟨_, rfl, (by show 3 ≤ sizeLine; decide), fun y15 n15 => ?_⟩
    have tp15 := tp_new (K := K) (xs := [(.str "binary"), (.str "both"), (.str "either")]) n15 (.cons (.str _) (.cons (.str _) (.cons (.str _) .nil)))
    have ob15 := sqt_new (K := K) (xs := [(.str "binary"), (.str "both"), (.str "either")]) n15
    have m15 := same_upd (o := HO.tup [(.str "binary"), (.str "both"), (.str "either")]) n15
    replace hs := sqt_same m15 hs
    replace hv := tp_same m15 hv
    have sm16 := m15
    refine ⟨_, _, rfl, .inr ob15, rfl, rfl, _, rfl, ite2 (fun _ => ?_) (fun e => absurd (by decide +kernel) e)⟩
    refine ⟨_, rfl, _, rfl, _, _, _, _, _, _, _, rfl, hv, ⟨.both w1 w2, (show btK "both" = true by decide +kernel)⟩, (by simp only [List.length_append, List.length_cons, List.length_nil, LIM_eq] at hl ⊢; omega), fun H17 y17 v17 m17 t17 h17 => ?_⟩
    replace hs := sqt_same m17 hs
    replace hv := tp_same m17 hv
    replace ob15 := sqt_same m17 ob15
    replace tp15 := tp_same m17 tp15
    have sm18 := Same.tr sm16 m17
    exact q _ _ _ sm18 t17 h17
  | @either _ l _ r _ _ s1 l1 s2 r1 w1 w2 =>
    obtain ⟨q0, x, y, rfl, hs, hx, hy⟩ := tp_2 hv
    refine ⟨_, rfl, _, _, _, (.str "either"), rfl, rfl, hs, rfl, ?_⟩
    refine ⟨_, rfl, rfl, _, rfl, ite2 (fun e => absurd e (by decide +kernel)) (fun _ => ?_)⟩
    refine ⟨_, rfl, rfl, _, rfl, ite2 (fun e => absurd e (by decide +kernel)) (fun _ => ?_)⟩
    refine ⟨_, rfl, rfl, _, rfl, ite2 (fun e => absurd e (by decide +kernel)) (fun _ => ?_)⟩
    refine ⟨_, rfl, rfl, _, rfl, ite2 (fun e => absurd e (by decide +kernel)) (fun _ => ?_)⟩
    refine ⟨_, rfl, rfl, _, rfl, ite2 (fun e => absurd e (by decide +kernel)) (fun _ => ?_)⟩
    refine ⟨_, rfl, rfl, _, rfl, ite2 (fun e => absurd e (by decide +kernel)) (fun _ => ?_)⟩
    refine ⟨_, rfl, (by show 3 ≤ sizeLine; decide), fun y19 n19 => ?_⟩
    have tp19 := tp_new (K := K) (xs := [(.str "binary"), (.str "both"), (.str "either")]) n19 (.cons (.str _) (.cons (.str _) (.cons (.str _) .nil)))
    have ob19 := sqt_new (K := K) (xs := [(.str "binary"), (.str "both"), (.str "either")]) n19
    have m19 := same_upd (o := HO.tup [(.str "binary"), (.str "both"), (.str "either")]) n19
    replace hs := sqt_same m19 hs
    replace hv := tp_same m19 hv
    have sm20 := m19
    refine ⟨_, _, rfl, .inr ob19, rfl, rfl, _, rfl, ite2 (fun _ => ?_) (fun e => absurd (by decide +kernel) e)⟩
    refine ⟨_, rfl, _, rfl, _, _, _, _, _, _, _, rfl, hv, ⟨.either w1 w2, (show btK "either" = true by decide +kernel)⟩, (by simp only [List.length_append, List.length_cons, List.length_nil, LIM_eq] at hl ⊢; omega), fun H21 y21 v21 m21 t21 h21 => ?_⟩
    replace hs := sqt_same m21 hs
    replace hv := tp_same m21 hv
    replace ob19 := sqt_same m21 ob19
    replace tp19 := tp_same m21 tp19
    have sm22 := Same.tr sm20 m21
    exact q _ _ _ sm22 t21 h21
  | @list _ es _ _ s1 es1 hn w1 =>
    obtain ⟨q0, x, rfl, hs, hx⟩ := tp_1 hv
    refine ⟨_, rfl, _, _, _, (.str "list"), rfl, rfl, hs, rfl, ?_⟩
    refine ⟨_, rfl, rfl, _, rfl, ite2 (fun e => absurd e (by decide +kernel)) (fun _ => ?_)⟩
    refine ⟨_, rfl, rfl, _, rfl, ite2 (fun e => absurd e (by decide +kernel)) (fun _ => ?_)⟩
    refine ⟨_, rfl, rfl, _, rfl, ite2 (fun e => absurd e (by decide +kernel)) (fun _ => ?_)⟩
    refine ⟨_, rfl, rfl, _, rfl, ite2 (fun e => absurd e (by decide +kernel)) (fun _ => ?_)⟩
    refine ⟨_, rfl, rfl, _, rfl, ite2 (fun e => absurd e (by decide +kernel)) (fun _ => ?_)⟩
    refine ⟨_, rfl, rfl, _, rfl, ite2 (fun e => absurd e (by decide +kernel)) (fun _ => ?_)⟩
    refine ⟨_, rfl, (by show 3 ≤ sizeLine; decide), fun y23 n23 => ?_⟩
    have tp23 := tp_new (K := K) (xs := [(.str "binary"), (.str "both"), (.str "either")]) n23 (.cons (.str _) (.cons (.str _) (.cons (.str _) .nil)))
    have ob23 := sqt_new (K := K) (xs := [(.str "binary"), (.str "both"), (.str "either")]) n23
    have m23 := same_upd (o := HO.tup [(.str "binary"), (.str "both"), (.str "either")]) n23
    replace hx := tp_same m23 hx
    replace hs := sqt_same m23 hs
    replace hv := tp_same m23 hv
    have sm24 := m23
    refine ⟨_, _, rfl, .inr ob23, rfl, rfl, _, rfl, ite2 (fun e => absurd e (by decide +kernel)) (fun _ => ?_)⟩
    refine ⟨_, rfl, rfl, _, rfl, ite2 (fun _ => ?_) (fun e => absurd (by decide +kernel) e)⟩
    refine ⟨_, rfl, _, _, _, x, rfl, rfl, hs, rfl, _, rfl, _, _, rfl, rfl, _, _, _, _, _, _, _, rfl, hx, ⟨_, _, rfl, rfl, hn, w1⟩, (by simp only [List.length_append, List.length_cons, List.length_nil, LIM_eq] at hl ⊢; omega), fun H25 y25 v25 m25 t25 h25 => ?_⟩
    replace hx := tp_same m25 hx
    replace hs := sqt_same m25 hs
    replace hv := tp_same m25 hv
    replace ob23 := sqt_same m25 ob23
    replace tp23 := tp_same m25 tp23
    have sm26 := Same.tr sm24 m25
    refine ⟨_, rfl, _, _, _, (.str (S s1)), rfl, rfl, (SqL.of t25), rfl, _, _, _, rfl, rfl, rfl, (by simp only [List.length_append, List.length_cons, List.length_nil, LIM_eq] at hl ⊢; omega), _, _, _, rfl, rfl, rfl, (by simp only [List.length_append, List.length_cons, List.length_nil, LIM_eq] at hl ⊢; omega), _, rfl, _, _, _, v25, rfl, rfl, (SqL.of t25), rfl, (by show 2 ≤ sizeLine; decide), fun y27 n27 => ?_⟩
    have tp27 := tp_new (K := K) (xs := [(.str "list"), v25]) n27 (.cons (.str _) (.cons h25 .nil))
    have ob27 := sqt_new (K := K) (xs := [(.str "list"), v25]) n27
    have m27 := same_upd (o := HO.tup [(.str "list"), v25]) n27
    replace hx := tp_same m27 hx
    replace hs := sqt_same m27 hs
    replace hv := tp_same m27 hv
    replace ob23 := sqt_same m27 ob23
    replace tp23 := tp_same m27 tp23
    replace t25 := m27 _ _ t25
    replace h25 := tp_same m27 h25
    have sm28 := Same.tr sm26 m27
    refine ⟨(by show 2 ≤ sizeLine; decide), fun y29 n29 => ?_⟩
    exact q _ _ _ (Same.ly sm28 n29) upd_same (tp_same (same_upd n29) tp27)
  | @map _ ps _ _ s1 ps1 hn w1 =>
    obtain ⟨q0, x, y, rfl, hs, hx, hy⟩ := tp_2 hv
    refine ⟨_, rfl, _, _, _, (.str "map"), rfl, rfl, hs, rfl, ?_⟩
    refine ⟨_, rfl, rfl, _, rfl, ite2 (fun e => absurd e (by decide +kernel)) (fun _ => ?_)⟩
    refine ⟨_, rfl, rfl, _, rfl, ite2 (fun e => absurd e (by decide +kernel)) (fun _ => ?_)⟩
    refine ⟨_, rfl, rfl, _, rfl, ite2 (fun e => absurd e (by decide +kernel)) (fun _ => ?_)⟩
    refine ⟨_, rfl, rfl, _, rfl, ite2 (fun e => absurd e (by decide +kernel)) (fun _ => ?_)⟩
    refine ⟨_, rfl, rfl, _, rfl, ite2 (fun e => absurd e (by decide +kernel)) (fun _ => ?_)⟩
    refine ⟨_, rfl, rfl, _, rfl, ite2 (fun e => absurd e (by decide +kernel)) (fun _ => ?_)⟩
    refine ⟨_, rfl, (by show 3 ≤ sizeLine; decide), fun y30 n30 => ?_⟩
    have tp30 := tp_new (K := K) (xs := [(.str "binary"), (.str "both"), (.str "either")]) n30 (.cons (.str _) (.cons (.str _) (.cons (.str _) .nil)))
    have ob30 := sqt_new (K := K) (xs := [(.str "binary"), (.str "both"), (.str "either")]) n30
    have m30 := same_upd (o := HO.tup [(.str "binary"), (.str "both"), (.str "either")]) n30
    replace hs := sqt_same m30 hs
    replace hv := tp_same m30 hv
    have sm31 := m30
    refine ⟨_, _, rfl, .inr ob30, rfl, rfl, _, rfl, ite2 (fun e => absurd e (by decide +kernel)) (fun _ => ?_)⟩
    refine ⟨_, rfl, rfl, _, rfl, ite2 (fun e => absurd e (by decide +kernel)) (fun _ => ?_)⟩
    refine ⟨_, rfl, rfl, _, rfl, ite2 (fun _ => ?_) (fun e => absurd (by decide +kernel) e)⟩
    refine ⟨_, rfl, _, rfl, _, _, _, _, _, _, _, rfl, hv, ⟨_, _, _, rfl, rfl, hn, w1, rfl⟩, (by simp only [List.length_append, List.length_cons, List.length_nil, LIM_eq] at hl ⊢; omega), fun H32 y32 v32 m32 t32 h32 => ?_⟩
    replace hs := sqt_same m32 hs
    replace hv := tp_same m32 hv
    replace ob30 := sqt_same m32 ob30
    replace tp30 := tp_same m32 tp30
    have sm33 := Same.tr sm31 m32
    exact q _ _ _ sm33 t32 h32
  | @super _ es _ _ s1 es1 hn w1 =>
    obtain ⟨q0, x, y, z, rfl, hs, hx, hy, hz⟩ := tp_3 hv
    refine ⟨_, rfl, _, _, _, (.str "super"), rfl, rfl, hs, rfl, ?_⟩
    refine ⟨_, rfl, rfl, _, rfl, ite2 (fun e => absurd e (by decide +kernel)) (fun _ => ?_)⟩
    refine ⟨_, rfl, rfl, _, rfl, ite2 (fun e => absurd e (by decide +kernel)) (fun _ => ?_)⟩
    refine ⟨_, rfl, rfl, _, rfl, ite2 (fun e => absurd e (by decide +kernel)) (fun _ => ?_)⟩
    refine ⟨_, rfl, rfl, _, rfl, ite2 (fun e => absurd e (by decide +kernel)) (fun _ => ?_)⟩
    refine ⟨_, rfl, rfl, _, rfl, ite2 (fun e => absurd e (by decide +kernel)) (fun _ => ?_)⟩
    refine ⟨_, rfl, rfl, _, rfl, ite2 (fun e => absurd e (by decide +kernel)) (fun _ => ?_)⟩
    refine ⟨_, rfl, (by show 3 ≤ sizeLine; decide), fun y34 n34 => ?_⟩
    have tp34 := tp_new (K := K) (xs := [(.str "binary"), (.str "both"), (.str "either")]) n34 (.cons (.str _) (.cons (.str _) (.cons (.str _) .nil)))
    have ob34 := sqt_new (K := K) (xs := [(.str "binary"), (.str "both"), (.str "either")]) n34
    have m34 := same_upd (o := HO.tup [(.str "binary"), (.str "both"), (.str "either")]) n34
    replace hs := sqt_same m34 hs
    replace hv := tp_same m34 hv
    have sm35 := m34
    refine ⟨_, _, rfl, .inr ob34, rfl, rfl, _, rfl, ite2 (fun e => absurd e (by decide +kernel)) (fun _ => ?_)⟩
    refine ⟨_, rfl, rfl, _, rfl, ite2 (fun e => absurd e (by decide +kernel)) (fun _ => ?_)⟩
    refine ⟨_, rfl, rfl, _, rfl, ite2 (fun e => absurd e (by decide +kernel)) (fun _ => ?_)⟩
    refine ⟨_, rfl, rfl, _, rfl, ite2 (fun e => absurd e (by decide +kernel)) (fun _ => ?_)⟩
    refine ⟨_, rfl, _, rfl, _, _, _, _, _, _, _, rfl, hv, ⟨.super hn w1, (show sfK "super" = true by decide +kernel)⟩, (by simp only [List.length_append, List.length_cons, List.length_nil, LIM_eq] at hl ⊢; omega), fun H36 y36 v36 m36 t36 h36 => ?_⟩
    replace hs := sqt_same m36 hs
    replace hv := tp_same m36 hv
    replace ob34 := sqt_same m36 ob34
    replace tp34 := tp_same m36 tp34
    have sm37 := Same.tr sm35 m36
    exact q _ _ _ sm37 t36 h36
  | @fn _ _ _ _ s1 _ w1 =>
    cases w1 with
    | @mk _ body _ _ s1 body1 j hj wb =>
      obtain ⟨q0, x, y, z, u, rfl, hs, hx, hy, hz, hu⟩ := tp_4 hv
      cases tp_int hx
      refine ⟨_, rfl, _, _, _, (.str "function"), rfl, rfl, hs, rfl, ?_⟩
      refine ⟨_, rfl, rfl, _, rfl, ite2 (fun e => absurd e (by decide +kernel)) (fun _ => ?_)⟩
      refine ⟨_, rfl, rfl, _, rfl, ite2 (fun e => absurd e (by decide +kernel)) (fun _ => ?_)⟩
      refine ⟨_, rfl, rfl, _, rfl, ite2 (fun e => absurd e (by decide +kernel)) (fun _ => ?_)⟩
      refine ⟨_, rfl, rfl, _, rfl, ite2 (fun e => absurd e (by decide +kernel)) (fun _ => ?_)⟩
      refine ⟨_, rfl, rfl, _, rfl, ite2 (fun e => absurd e (by decide +kernel)) (fun _ => ?_)⟩
      refine ⟨_, rfl, rfl, _, rfl, ite2 (fun e => absurd e (by decide +kernel)) (fun _ => ?_)⟩
      refine ⟨_, rfl, (by show 3 ≤ sizeLine; decide), fun y38 n38 => ?_⟩
      have tp38 := tp_new (K := K) (xs := [(.str "binary"), (.str "both"), (.str "either")]) n38 (.cons (.str _) (.cons (.str _) (.cons (.str _) .nil)))
      have ob38 := sqt_new (K := K) (xs := [(.str "binary"), (.str "both"), (.str "either")]) n38
      have m38 := same_upd (o := HO.tup [(.str "binary"), (.str "both"), (.str "either")]) n38
      replace hs := sqt_same m38 hs
      replace hv := tp_same m38 hv
      replace hy := tp_same m38 hy
      replace hz := tp_same m38 hz
      replace hu := tp_same m38 hu
      have sm39 := m38
      refine ⟨_, _, rfl, .inr ob38, rfl, rfl, _, rfl, ite2 (fun e => absurd e (by decide +kernel)) (fun _ => ?_)⟩
      refine ⟨_, rfl, rfl, _, rfl, ite2 (fun e => absurd e (by decide +kernel)) (fun _ => ?_)⟩
      refine ⟨_, rfl, rfl, _, rfl, ite2 (fun e => absurd e (by decide +kernel)) (fun _ => ?_)⟩
      refine ⟨_, rfl, rfl, _, rfl, ite2 (fun _ => ?_) (fun e => absurd (by decide +kernel) e)⟩
      refine ⟨_, rfl, _, rfl, _, _, rfl, rfl, _, rfl, _, _, _, z, rfl, rfl, hs, rfl, _, _, _, _, _, _, _, _, _, _, _, _, _, rfl, hs, hu, hz, wb, (by simp only [List.length_append, List.length_cons, List.length_nil, LIM_eq] at hl ⊢; omega), fun H40 y40 v40 m40 t40 h40 => ?_⟩
      replace hs := sqt_same m40 hs
      replace hv := tp_same m40 hv
      replace hy := tp_same m40 hy
      replace hz := tp_same m40 hz
      replace hu := tp_same m40 hu
      replace ob38 := sqt_same m40 ob38
      replace tp38 := tp_same m40 tp38
      have sm41 := Same.tr sm39 m40
      refine ⟨_, rfl, _, _, _, (.str (S (headN ([] ++ abcd.take j) ++ s1))), rfl, rfl, (SqL.of t40), rfl, _, _, _, rfl, rfl, rfl, (by simp only [List.length_append, List.length_cons, List.length_nil, LIM_eq] at hl ⊢; omega), _, rfl, _, rfl, _, _, _, y, rfl, rfl, hs, rfl, _, rfl, _, _, _, z, rfl, rfl, hs, rfl, _, rfl, _, _, _, v40, rfl, rfl, (SqL.of t40), rfl, (by show 5 ≤ sizeLine; decide), fun y42 n42 => ?_⟩
      have tp42 := tp_new (K := K) (xs := [(.str "function"), (.int at_), y, z, v40]) n42 (.cons (.str _) (.cons (.int _) (.cons hy (.cons hz (.cons h40 .nil)))))
      have ob42 := sqt_new (K := K) (xs := [(.str "function"), (.int at_), y, z, v40]) n42
      have m42 := same_upd (o := HO.tup [(.str "function"), (.int at_), y, z, v40]) n42
      replace hs := sqt_same m42 hs
      replace hv := tp_same m42 hv
      replace hy := tp_same m42 hy
      replace hz := tp_same m42 hz
      replace hu := tp_same m42 hu
      replace ob38 := sqt_same m42 ob38
      replace tp38 := tp_same m42 tp38
      replace t40 := m42 _ _ t40
      replace h40 := tp_same m42 h40
      have sm43 := Same.tr sm41 m42
      refine ⟨(by show 2 ≤ sizeLine; decide), fun y44 n44 => ?_⟩
      exact q _ _ _ (Same.ly sm43 n44) upd_same (tp_same (same_upd n44) tp42)
  | @assign _ e _ _ s1 e1 x hm w1 =>
    obtain ⟨q0, x, y, z, rfl, hs, hx, hy, hz⟩ := tp_3 hv
    refine ⟨_, rfl, _, _, _, (.str "assign"), rfl, rfl, hs, rfl, ?_⟩
    refine ⟨_, rfl, rfl, _, rfl, ite2 (fun e => absurd e (by decide +kernel)) (fun _ => ?_)⟩
    refine ⟨_, rfl, rfl, _, rfl, ite2 (fun e => absurd e (by decide +kernel)) (fun _ => ?_)⟩
    refine ⟨_, rfl, rfl, _, rfl, ite2 (fun e => absurd e (by decide +kernel)) (fun _ => ?_)⟩
    refine ⟨_, rfl, rfl, _, rfl, ite2 (fun e => absurd e (by decide +kernel)) (fun _ => ?_)⟩
    refine ⟨_, rfl, rfl, _, rfl, ite2 (fun e => absurd e (by decide +kernel)) (fun _ => ?_)⟩
    refine ⟨_, rfl, rfl, _, rfl, ite2 (fun e => absurd e (by decide +kernel)) (fun _ => ?_)⟩
    refine ⟨_, rfl, (by show 3 ≤ sizeLine; decide), fun y45 n45 => ?_⟩
    have tp45 := tp_new (K := K) (xs := [(.str "binary"), (.str "both"), (.str "either")]) n45 (.cons (.str _) (.cons (.str _) (.cons (.str _) .nil)))
    have ob45 := sqt_new (K := K) (xs := [(.str "binary"), (.str "both"), (.str "either")]) n45
    have m45 := same_upd (o := HO.tup [(.str "binary"), (.str "both"), (.str "either")]) n45
    replace hs := sqt_same m45 hs
    replace hv := tp_same m45 hv
    have sm46 := m45
    refine ⟨_, _, rfl, .inr ob45, rfl, rfl, _, rfl, ite2 (fun e => absurd e (by decide +kernel)) (fun _ => ?_)⟩
    refine ⟨_, rfl, rfl, _, rfl, ite2 (fun e => absurd e (by decide +kernel)) (fun _ => ?_)⟩
    refine ⟨_, rfl, rfl, _, rfl, ite2 (fun e => absurd e (by decide +kernel)) (fun _ => ?_)⟩
    refine ⟨_, rfl, rfl, _, rfl, ite2 (fun e => absurd e (by decide +kernel)) (fun _ => ?_)⟩
    refine ⟨_, rfl, _, rfl, _, _, _, _, _, _, _, rfl, hv, ⟨.assign hm w1, (show sfK "assign" = true by decide +kernel)⟩, (by simp only [List.length_append, List.length_cons, List.length_nil, LIM_eq] at hl ⊢; omega), fun H47 y47 v47 m47 t47 h47 => ?_⟩
    replace hs := sqt_same m47 hs
    replace hv := tp_same m47 hv
    replace ob45 := sqt_same m47 ob45
    replace tp45 := tp_same m47 tp45
    have sm48 := Same.tr sm46 m47
    exact q _ _ _ sm48 t47 h47
  | @call _ l _ es _ _ s1 l1 s2 es1 hn w1 w2 =>
    obtain ⟨q0, x, y, z, rfl, hs, hx, hy, hz⟩ := tp_3 hv
    refine ⟨_, rfl, _, _, _, (.str "call"), rfl, rfl, hs, rfl, ?_⟩
    refine ⟨_, rfl, rfl, _, rfl, ite2 (fun e => absurd e (by decide +kernel)) (fun _ => ?_)⟩
    refine ⟨_, rfl, rfl, _, rfl, ite2 (fun e => absurd e (by decide +kernel)) (fun _ => ?_)⟩
    refine ⟨_, rfl, rfl, _, rfl, ite2 (fun e => absurd e (by decide +kernel)) (fun _ => ?_)⟩
    refine ⟨_, rfl, rfl, _, rfl, ite2 (fun e => absurd e (by decide +kernel)) (fun _ => ?_)⟩
    refine ⟨_, rfl, rfl, _, rfl, ite2 (fun e => absurd e (by decide +kernel)) (fun _ => ?_)⟩
    refine ⟨_, rfl, rfl, _, rfl, ite2 (fun e => absurd e (by decide +kernel)) (fun _ => ?_)⟩
    refine ⟨_, rfl, (by show 3 ≤ sizeLine; decide), fun y49 n49 => ?_⟩
    have tp49 := tp_new (K := K) (xs := [(.str "binary"), (.str "both"), (.str "either")]) n49 (.cons (.str _) (.cons (.str _) (.cons (.str _) .nil)))
    have ob49 := sqt_new (K := K) (xs := [(.str "binary"), (.str "both"), (.str "either")]) n49
    have m49 := same_upd (o := HO.tup [(.str "binary"), (.str "both"), (.str "either")]) n49
    replace hs := sqt_same m49 hs
    replace hv := tp_same m49 hv
    have sm50 := m49
    refine ⟨_, _, rfl, .inr ob49, rfl, rfl, _, rfl, ite2 (fun e => absurd e (by decide +kernel)) (fun _ => ?_)⟩
    refine ⟨_, rfl, rfl, _, rfl, ite2 (fun e => absurd e (by decide +kernel)) (fun _ => ?_)⟩
    refine ⟨_, rfl, rfl, _, rfl, ite2 (fun e => absurd e (by decide +kernel)) (fun _ => ?_)⟩
    refine ⟨_, rfl, rfl, _, rfl, ite2 (fun e => absurd e (by decide +kernel)) (fun _ => ?_)⟩
    refine ⟨_, rfl, _, rfl, _, _, _, _, _, _, _, rfl, hv, ⟨.call hn w1 w2, (show sfK "call" = true by decide +kernel)⟩, (by simp only [List.length_append, List.length_cons, List.length_nil, LIM_eq] at hl ⊢; omega), fun H51 y51 v51 m51 t51 h51 => ?_⟩
    replace hs := sqt_same m51 hs
    replace hv := tp_same m51 hv
    replace ob49 := sqt_same m51 ob49
    replace tp49 := tp_same m51 tp49
    have sm52 := Same.tr sm50 m51
    exact q _ _ _ sm52 t51 h51
  | @index _ l _ i _ _ s1 l1 s2 i1 w1 w2 =>
    obtain ⟨q0, x, y, z, rfl, hs, hx, hy, hz⟩ := tp_3 hv
    refine ⟨_, rfl, _, _, _, (.str "index"), rfl, rfl, hs, rfl, ?_⟩
    refine ⟨_, rfl, rfl, _, rfl, ite2 (fun e => absurd e (by decide +kernel)) (fun _ => ?_)⟩
    refine ⟨_, rfl, rfl, _, rfl, ite2 (fun e => absurd e (by decide +kernel)) (fun _ => ?_)⟩
    refine ⟨_, rfl, rfl, _, rfl, ite2 (fun e => absurd e (by decide +kernel)) (fun _ => ?_)⟩
    refine ⟨_, rfl, rfl, _, rfl, ite2 (fun e => absurd e (by decide +kernel)) (fun _ => ?_)⟩
    refine ⟨_, rfl, rfl, _, rfl, ite2 (fun e => absurd e (by decide +kernel)) (fun _ => ?_)⟩
    refine ⟨_, rfl, rfl, _, rfl, ite2 (fun e => absurd e (by decide +kernel)) (fun _ => ?_)⟩
    refine ⟨_, rfl, (by show 3 ≤ sizeLine; decide), fun y53 n53 => ?_⟩
    have tp53 := tp_new (K := K) (xs := [(.str "binary"), (.str "both"), (.str "either")]) n53 (.cons (.str _) (.cons (.str _) (.cons (.str _) .nil)))
    have ob53 := sqt_new (K := K) (xs := [(.str "binary"), (.str "both"), (.str "either")]) n53
    have m53 := same_upd (o := HO.tup [(.str "binary"), (.str "both"), (.str "either")]) n53
    replace hs := sqt_same m53 hs
    replace hv := tp_same m53 hv
    have sm54 := m53
    refine ⟨_, _, rfl, .inr ob53, rfl, rfl, _, rfl, ite2 (fun e => absurd e (by decide +kernel)) (fun _ => ?_)⟩
    refine ⟨_, rfl, rfl, _, rfl, ite2 (fun e => absurd e (by decide +kernel)) (fun _ => ?_)⟩
    refine ⟨_, rfl, rfl, _, rfl, ite2 (fun e => absurd e (by decide +kernel)) (fun _ => ?_)⟩
    refine ⟨_, rfl, rfl, _, rfl, ite2 (fun e => absurd e (by decide +kernel)) (fun _ => ?_)⟩
    refine ⟨_, rfl, _, rfl, _, _, _, _, _, _, _, rfl, hv, ⟨.index w1 w2, (show sfK "index" = true by decide +kernel)⟩, (by simp only [List.length_append, List.length_cons, List.length_nil, LIM_eq] at hl ⊢; omega), fun H55 y55 v55 m55 t55 h55 => ?_⟩
    replace hs := sqt_same m55 hs
    replace hv := tp_same m55 hv
    replace ob53 := sqt_same m55 ob53
    replace tp53 := tp_same m55 tp53
    have sm56 := Same.tr sm54 m55
    exact q _ _ _ sm56 t55 h55
  | @setIndex _ l _ i _ e _ _ s1 l1 s2 i1 s3 e1 w1 w2 w3 =>
    obtain ⟨q0, x, y, z, u, rfl, hs, hx, hy, hz, hu⟩ := tp_4 hv
    refine ⟨_, rfl, _, _, _, (.str "set_index"), rfl, rfl, hs, rfl, ?_⟩
    refine ⟨_, rfl, rfl, _, rfl, ite2 (fun e => absurd e (by decide +kernel)) (fun _ => ?_)⟩
    refine ⟨_, rfl, rfl, _, rfl, ite2 (fun e => absurd e (by decide +kernel)) (fun _ => ?_)⟩
    refine ⟨_, rfl, rfl, _, rfl, ite2 (fun e => absurd e (by decide +kernel)) (fun _ => ?_)⟩
    refine ⟨_, rfl, rfl, _, rfl, ite2 (fun e => absurd e (by decide +kernel)) (fun _ => ?_)⟩
    refine ⟨_, rfl, rfl, _, rfl, ite2 (fun e => absurd e (by decide +kernel)) (fun _ => ?_)⟩
    refine ⟨_, rfl, rfl, _, rfl, ite2 (fun e => absurd e (by decide +kernel)) (fun _ => ?_)⟩
    refine ⟨_, rfl, (by show 3 ≤ sizeLine; decide), fun y57 n57 => ?_⟩
    have tp57 := tp_new (K := K) (xs := [(.str "binary"), (.str "both"), (.str "either")]) n57 (.cons (.str _) (.cons (.str _) (.cons (.str _) .nil)))
    have ob57 := sqt_new (K := K) (xs := [(.str "binary"), (.str "both"), (.str "either")]) n57
    have m57 := same_upd (o := HO.tup [(.str "binary"), (.str "both"), (.str "either")]) n57
    replace hs := sqt_same m57 hs
    replace hv := tp_same m57 hv
    have sm58 := m57
    refine ⟨_, _, rfl, .inr ob57, rfl, rfl, _, rfl, ite2 (fun e => absurd e (by decide +kernel)) (fun _ => ?_)⟩
    refine ⟨_, rfl, rfl, _, rfl, ite2 (fun e => absurd e (by decide +kernel)) (fun _ => ?_)⟩
    refine ⟨_, rfl, rfl, _, rfl, ite2 (fun e => absurd e (by decide +kernel)) (fun _ => ?_)⟩
    refine ⟨_, rfl, rfl, _, rfl, ite2 (fun e => absurd e (by decide +kernel)) (fun _ => ?_)⟩
    refine ⟨_, rfl, _, rfl, _, _, _, _, _, _, _, rfl, hv, ⟨.setIndex w1 w2 w3, (show sfK "set_index" = true by decide +kernel)⟩, (by simp only [List.length_append, List.length_cons, List.length_nil, LIM_eq] at hl ⊢; omega), fun H59 y59 v59 m59 t59 h59 => ?_⟩
    replace hs := sqt_same m59 hs
    replace hv := tp_same m59 hv
    replace ob57 := sqt_same m59 ob57
    replace tp57 := tp_same m59 tp57
    have sm60 := Same.tr sm58 m59
    exact q _ _ _ sm60 t59 h59
  | @field _ l _ _ s1 l1 x hm w1 =>
    obtain ⟨q0, x, y, z, rfl, hs, hx, hy, hz⟩ := tp_3 hv
    refine ⟨_, rfl, _, _, _, (.str "field"), rfl, rfl, hs, rfl, ?_⟩
    refine ⟨_, rfl, rfl, _, rfl, ite2 (fun e => absurd e (by decide +kernel)) (fun _ => ?_)⟩
    refine ⟨_, rfl, rfl, _, rfl, ite2 (fun e => absurd e (by decide +kernel)) (fun _ => ?_)⟩
    refine ⟨_, rfl, rfl, _, rfl, ite2 (fun e => absurd e (by decide +kernel)) (fun _ => ?_)⟩
    refine ⟨_, rfl, rfl, _, rfl, ite2 (fun e => absurd e (by decide +kernel)) (fun _ => ?_)⟩
    refine ⟨_, rfl, rfl, _, rfl, ite2 (fun e => absurd e (by decide +kernel)) (fun _ => ?_)⟩
    refine ⟨_, rfl, rfl, _, rfl, ite2 (fun e => absurd e (by decide +kernel)) (fun _ => ?_)⟩
    refine ⟨_, rfl, (by show 3 ≤ sizeLine; decide), fun y61 n61 => ?_⟩
    have tp61 := tp_new (K := K) (xs := [(.str "binary"), (.str "both"), (.str "either")]) n61 (.cons (.str _) (.cons (.str _) (.cons (.str _) .nil)))
    have ob61 := sqt_new (K := K) (xs := [(.str "binary"), (.str "both"), (.str "either")]) n61
    have m61 := same_upd (o := HO.tup [(.str "binary"), (.str "both"), (.str "either")]) n61
    replace hs := sqt_same m61 hs
    replace hv := tp_same m61 hv
    have sm62 := m61
    refine ⟨_, _, rfl, .inr ob61, rfl, rfl, _, rfl, ite2 (fun e => absurd e (by decide +kernel)) (fun _ => ?_)⟩
    refine ⟨_, rfl, rfl, _, rfl, ite2 (fun e => absurd e (by decide +kernel)) (fun _ => ?_)⟩
    refine ⟨_, rfl, rfl, _, rfl, ite2 (fun e => absurd e (by decide +kernel)) (fun _ => ?_)⟩
    refine ⟨_, rfl, rfl, _, rfl, ite2 (fun e => absurd e (by decide +kernel)) (fun _ => ?_)⟩
    refine ⟨_, rfl, _, rfl, _, _, _, _, _, _, _, rfl, hv, ⟨.field hm w1, (show sfK "field" = true by decide +kernel)⟩, (by simp only [List.length_append, List.length_cons, List.length_nil, LIM_eq] at hl ⊢; omega), fun H63 y63 v63 m63 t63 h63 => ?_⟩
    replace hs := sqt_same m63 hs
    replace hv := tp_same m63 hv
    replace ob61 := sqt_same m63 ob61
    replace tp61 := tp_same m63 tp61
    have sm64 := Same.tr sm62 m63
    exact q _ _ _ sm64 t63 h63
  | @invoke _ l _ es _ _ s1 l1 s2 es1 x hm hn w1 w2 =>
    obtain ⟨q0, x, y, z, u, rfl, hs, hx, hy, hz, hu⟩ := tp_4 hv
    refine ⟨_, rfl, _, _, _, (.str "invoke"), rfl, rfl, hs, rfl, ?_⟩
    refine ⟨_, rfl, rfl, _, rfl, ite2 (fun e => absurd e (by decide +kernel)) (fun _ => ?_)⟩
    refine ⟨_, rfl, rfl, _, rfl, ite2 (fun e => absurd e (by decide +kernel)) (fun _ => ?_)⟩
    refine ⟨_, rfl, rfl, _, rfl, ite2 (fun e => absurd e (by decide +kernel)) (fun _ => ?_)⟩
    refine ⟨_, rfl, rfl, _, rfl, ite2 (fun e => absurd e (by decide +kernel)) (fun _ => ?_)⟩
    refine ⟨_, rfl, rfl, _, rfl, ite2 (fun e => absurd e (by decide +kernel)) (fun _ => ?_)⟩
    refine ⟨_, rfl, rfl, _, rfl, ite2 (fun e => absurd e (by decide +kernel)) (fun _ => ?_)⟩
    refine ⟨_, rfl, (by show 3 ≤ sizeLine; decide), fun y65 n65 => ?_⟩
    have tp65 := tp_new (K := K) (xs := [(.str "binary"), (.str "both"), (.str "either")]) n65 (.cons (.str _) (.cons (.str _) (.cons (.str _) .nil)))
    have ob65 := sqt_new (K := K) (xs := [(.str "binary"), (.str "both"), (.str "either")]) n65
    have m65 := same_upd (o := HO.tup [(.str "binary"), (.str "both"), (.str "either")]) n65
    replace hs := sqt_same m65 hs
    replace hv := tp_same m65 hv
    have sm66 := m65
    refine ⟨_, _, rfl, .inr ob65, rfl, rfl, _, rfl, ite2 (fun e => absurd e (by decide +kernel)) (fun _ => ?_)⟩
    refine ⟨_, rfl, rfl, _, rfl, ite2 (fun e => absurd e (by decide +kernel)) (fun _ => ?_)⟩
    refine ⟨_, rfl, rfl, _, rfl, ite2 (fun e => absurd e (by decide +kernel)) (fun _ => ?_)⟩
    refine ⟨_, rfl, rfl, _, rfl, ite2 (fun e => absurd e (by decide +kernel)) (fun _ => ?_)⟩
    refine ⟨_, rfl, _, rfl, _, _, _, _, _, _, _, rfl, hv, ⟨.invoke hm hn w1 w2, (show sfK "invoke" = true by decide +kernel)⟩, (by simp only [List.length_append, List.length_cons, List.length_nil, LIM_eq] at hl ⊢; omega), fun H67 y67 v67 m67 t67 h67 => ?_⟩
    replace hs := sqt_same m67 hs
    replace hv := tp_same m67 hv
    replace ob65 := sqt_same m67 ob65
    replace tp65 := tp_same m67 tp65
    have sm68 := Same.tr sm66 m67
    exact q _ _ _ sm68 t67 h67
  | @setField _ l _ e _ _ s1 l1 s2 e1 w1 w2 =>
    obtain ⟨q0, x, y, z, u, rfl, hs, hx, hy, hz, hu⟩ := tp_4 hv
    refine ⟨_, rfl, _, _, _, (.str "set_field"), rfl, rfl, hs, rfl, ?_⟩
    refine ⟨_, rfl, rfl, _, rfl, ite2 (fun e => absurd e (by decide +kernel)) (fun _ => ?_)⟩
    refine ⟨_, rfl, rfl, _, rfl, ite2 (fun e => absurd e (by decide +kernel)) (fun _ => ?_)⟩
    refine ⟨_, rfl, rfl, _, rfl, ite2 (fun e => absurd e (by decide +kernel)) (fun _ => ?_)⟩
    refine ⟨_, rfl, rfl, _, rfl, ite2 (fun e => absurd e (by decide +kernel)) (fun _ => ?_)⟩
    refine ⟨_, rfl, rfl, _, rfl, ite2 (fun e => absurd e (by decide +kernel)) (fun _ => ?_)⟩
    refine ⟨_, rfl, rfl, _, rfl, ite2 (fun e => absurd e (by decide +kernel)) (fun _ => ?_)⟩
    refine ⟨_, rfl, (by show 3 ≤ sizeLine; decide), fun y69 n69 => ?_⟩
    have tp69 := tp_new (K := K) (xs := [(.str "binary"), (.str "both"), (.str "either")]) n69 (.cons (.str _) (.cons (.str _) (.cons (.str _) .nil)))
    have ob69 := sqt_new (K := K) (xs := [(.str "binary"), (.str "both"), (.str "either")]) n69
    have m69 := same_upd (o := HO.tup [(.str "binary"), (.str "both"), (.str "either")]) n69
    replace hs := sqt_same m69 hs
    replace hv := tp_same m69 hv
    have sm70 := m69
    refine ⟨_, _, rfl, .inr ob69, rfl, rfl, _, rfl, ite2 (fun e => absurd e (by decide +kernel)) (fun _ => ?_)⟩
    refine ⟨_, rfl, rfl, _, rfl, ite2 (fun e => absurd e (by decide +kernel)) (fun _ => ?_)⟩
    refine ⟨_, rfl, rfl, _, rfl, ite2 (fun e => absurd e (by decide +kernel)) (fun _ => ?_)⟩
    refine ⟨_, rfl, rfl, _, rfl, ite2 (fun e => absurd e (by decide +kernel)) (fun _ => ?_)⟩
    refine ⟨_, rfl, _, rfl, _, _, _, _, _, _, _, rfl, hv, ⟨.setField w1 w2, (show sfK "set_field" = true by decide +kernel)⟩, (by simp only [List.length_append, List.length_cons, List.length_nil, LIM_eq] at hl ⊢; omega), fun H71 y71 v71 m71 t71 h71 => ?_⟩
    replace hs := sqt_same m71 hs
    replace hv := tp_same m71 hv
    replace ob69 := sqt_same m71 ob69
    replace tp69 := tp_same m71 tp69
    have sm72 := Same.tr sm70 m71
    exact q _ _ _ sm72 t71 h71
end
end My
namespace My
open PySem L2 SX CwR
open C8 (pss_cut tCut cutS_slice pe_gc)
section
variable {P : Program} {w : World} {K : PySem.W.Frag} {mg : Str → Option Value} {base : Heap} {a : Nat → Addr} {d : Nat → FuncData}
/-! ### _law_items -/
theorem scItems : FnScope ["items", "at", "text", "found", "item", "told"] ["items", "at"] (defScope sItems) := ⟨rfl, rfl, rfl, by decide +kernel, rfl, by decide +kernel, by decide +kernel⟩
theorem ok_items {It : Rl} {k : Nat} (L : TW K mg a d) (B : Bl mg) (G_law_item_text : FnOk P w K mg base CX0 k (a 9) (d 9) ["item", "at"] (spW K It)) : FnOk P w K mg base CX0 (k + 1) (a 8) (d 8) ["items", "at"] (spW K (ItsR It)) := by
  refine L.f_law_items.ok scItems spW_len (fun cdv A outer s H vs Q E hr h => ?_)
  obtain ⟨v, d0, a0, b0, at_, s0, d0', rfl, hv, w, hl, q⟩ := h
  refine ⟨_, pss_cons (ps_set (i := 2) scItems.nd rfl (.inl rfl) (pe_lit [] (by decide +kernel)))
      (pss_cons (ps_set (i := 3) scItems.nd rfl (.inl rfl) (pe_lst pa_nil))
      (pss_cons (ps_for PassesOwn.never rfl (pi_tup (pv 0)) (pg_name (i := 4) scItems.nd rfl (.inl rfl))
        (pss_cons (ps_set (i := 5) scItems.nd rfl (.inl rfl) (pe_call G_law_item_text (hr.mono (by omega)) (by rfl) L.g_law_item_text L.f_law_item_text.kp L.b_law_item_text .nil pass0 (pa_cons (pv 4) (pa_cons (pe_op op_add (pv 1) (pe_callB call_lenE (by rfl) B.len PySem.boot_len (pa_cons (pv 2) pa_nil))) pa_nil))))
        (pss_cons (ps_set (i := 2) scItems.nd rfl (.inl rfl) (pe_op op_catE (pe_op op_catE (pv 2) (pe_ix ix_list (pv 5) pe_int (fun _ _ => rfl))) (pe_lit [10] (by decide +kernel))))
        (pss_one (ps_expr (pe_bm PySem.F.plainAttrs_list PySem.F.slot_list_append PySem.F.type_list_append mt_append (pv 3) (pa_cons (pe_ix ix_list (pv 5) pe_int (fun _ _ => rfl)) pa_nil)))))))
      (pss_one (ps_ret (pe_lst (pa_cons (pv 2) (pa_cons (pe_callTy call_tuple_of (by rfl) B.tuple (by decide +kernel) (pa_cons (pv 3) pa_nil)) pa_nil))))))), ?_⟩
  obtain ⟨ds, ds', rfl, rfl, hn, w⟩ := w
  obtain ⟨q0, xs, rfl, hs, hx⟩ := tp_t hv
  obtain ⟨hlen, T, T0, Tn, Tf, Tl⟩ := iw_steps w
  have hxl := tpa_len hx
  refine ⟨Nat.zero_le _, fun l nl => ?_⟩
  refine ⟨_, rfl, q0, rfl, ⟨_, sqt_same (same_upd nl) hs⟩, for_tup (K := K) (a := q0) (xs := xs) (fun i σ H' => ∃ (y4 y5 : Option V) (fs : List V), σ = [some (.ref q0), some (.int at_), some (.str (S (T i))), some (.ref l), y4, y5] ∧ Same H H' ∧ H' l = some (.lst fs) ∧ fs.length = i ∧ TpAll K H' fs (ds'.take i))
    ⟨none, none, [], by rw [T0]; rfl, same_upd nl, upd_same, rfl, .nil⟩ ?_ ?_ ?_⟩
  · rintro i σ H' _ ⟨y4, y5, fs, rfl, sm, hf, hfl, hfa⟩
    exact sqt_same sm hs
  · rintro i vv σ H' ev ⟨y4, y5, fs, rfl, sm, hf, hfl, hfa⟩
    have hi' : i < ds.length := by
      have := (List.getElem?_eq_some_iff.mp ev).1
      omega
    obtain ⟨dd, dd', b1, c1, t, e1, e2, e3, e4⟩ := Tf i hi'
    have hL := Tl (i + 1) (by omega)
    rw [e4] at hL
    have hl := Nat.le_trans hL hl
    obtain ⟨v9, ev9, hvv⟩ := tpa_at hx e1
    cases Option.some.inj (ev.symm.trans ev9)
    refine ⟨_, rfl, _, rfl, _, rfl, _, _, rfl, (by simp only [List.length_append, List.length_cons, List.length_nil, LIM_eq] at hl ⊢; omega), rfl, _, _, rfl, rfl, ?_⟩
    refine ⟨_, _, _, _, _, _, _, rfl, tp_same sm hvv, e3, (by simp only [List.length_append, List.length_cons, List.length_nil, LIM_eq] at hl ⊢; omega), fun H3 y3 v3 m3 t3 h3 => ?_⟩
    refine ⟨_, rfl, _, rfl, _, _, _, (.str (S t)), rfl, rfl, SqL.of t3, rfl, _, _, _, rfl, rfl, rfl, (by simp only [List.length_append, List.length_cons, List.length_nil, LIM_eq] at hl ⊢; omega), _, _, _, rfl, rfl, rfl, (by simp only [List.length_append, List.length_cons, List.length_nil, LIM_eq] at hl ⊢; omega), ?_⟩
    have hf3 := m3 _ _ hf
    refine ⟨_, rfl, .inl ⟨rfl, _, SqL.of hf3⟩, _, rfl, _, _, _, v3, rfl, rfl, SqL.of t3, rfl, l, fs, _, rfl, rfl, hf3, (by rw [sizeLine_eq]; omega), _, _, fs ++ [v3], by rw [e4]; rfl, ?_, upd_same, by rw [List.length_append, hfl]; rfl, ?_⟩
    · exact fun x o e => by
        rw [upd_ne (fun z => by rw [z, nl] at e; cases e)]
        exact m3 _ _ (sm _ _ e)
    · rw [take_snoc e2]
      exact tpa_lst hf3 (tpa_snoc (tpa_same m3 hfa) h3)
  · rintro σ H' ⟨y4, y5, fs, rfl, sm, hf, hfl, hfa⟩
    rw [hxl] at hfl hfa
    rw [← hlen, List.take_length] at hfa
    refine ⟨_, rfl, _, rfl, l, fs, rfl, .inl ⟨SqL.of hf, fun y ny => ⟨(by show 2 ≤ sizeLine; decide), fun z nz => ?_⟩⟩⟩
    rw [hxl, Tn]
    exact q _ _ _ (Same.ly (Same.ly sm ny) nz) upd_same (tp_same (same_upd nz) (tp_new ny hfa))
/-! ### _law_item_text -/
theorem ne_k {k m : Str} (h : k ≠ m) : ¬ decide (V.str k = V.str m) = true := fun e => h (by
  have := of_decide_eq_true e
  injection this)
theorem scItemText : FnScope ["item", "at", "told", "text", "found", "member"] ["item", "at"] (defScope sItemText) := ⟨rfl, rfl, rfl, by decide +kernel, rfl, by decide +kernel, by decide +kernel⟩
theorem ok_item_text {R St Bk : Rl} {k : Nat} (L : TW K mg a d) (B : Bl mg) (hS : ∀ {a d b at_ s d'}, St a d b at_ s d' → ∃ k fs, d = tup k fs ∧ k ≠ "let" ∧ k ≠ "group") (G_law_write : FnOk P w K mg base CX0 k (a 2) (d 2) ["term", "at"] (spW K R)) (G_law_member_text : FnOk P w K mg base CX0 k (a 10) (d 10) ["member", "at"] (spW K (MemF Bk))) (G_law_statement_text : FnOk P w K mg base CX0 k (a 11) (d 11) ["term", "at"] (spW K St)) :
    FnOk P w K mg base CX0 (k + 1) (a 9) (d 9) ["item", "at"] (spW K (ItF R St Bk)) := by
  refine L.f_law_item_text.ok scItemText spW_len (fun cdv A outer s H vs Q E hr h => ?_)
  obtain ⟨v, d0, a0, b0, at_, s0, d0', rfl, hv, w, hl, q⟩ := h
  refine ⟨_, pss_cons (ps_if (pt_cmpR op_eq (pe_ix ix_tup (pv 0) pe_int (fun _ _ => rfl)) pe_str (nomark _))
        (pss_cons (ps_set (i := 2) scItemText.nd rfl (.inl rfl) (pe_call G_law_write (hr.mono (by omega)) (by rfl) L.g_law_write L.f_law_write.kp L.b_law_write .nil pass0 (pa_cons (pe_ix ix_tup (pv 0) pe_int (fun _ _ => rfl)) (pa_cons (pe_op op_add (pe_op op_add (pe_op op_add (pv 1) pe_int) (pe_callB call_lenE (by rfl) B.len PySem.boot_len (pa_cons (pe_ix ix_tup (pv 0) pe_int (fun _ _ => rfl)) pa_nil))) pe_int) pa_nil))))
        (pss_one (ps_ret (pe_lst (pa_cons (pe_op op_catE (pe_op op_catE (pe_op op_catE (pe_op op_catE (pe_lit (cs "let ") (by decide +kernel)) (pe_ix ix_tup (pv 0) pe_int (fun _ _ => rfl))) (pe_lit [61] (by decide +kernel))) (pe_ix ix_list (pv 2) pe_int (fun _ _ => rfl))) (pe_lit [59] (by decide +kernel))) (pa_cons (pe_tup (pa_cons pe_str (pa_cons (pe_op op_add (pv 1) pe_int) (pa_cons (pe_ix ix_tup (pv 0) pe_int (fun _ _ => rfl)) (pa_cons (pe_ix ix_list (pv 2) pe_int (fun _ _ => rfl)) pa_nil))))) pa_nil))))))
        pss_nil)
      (pss_cons (ps_if (pt_cmpR op_eq (pe_ix ix_tup (pv 0) pe_int (fun _ _ => rfl)) pe_str (nomark _))
        (pss_cons (ps_set (i := 3) scItemText.nd rfl (.inl rfl) (pe_lit [] (by decide +kernel)))
        (pss_cons (ps_set (i := 4) scItemText.nd rfl (.inl rfl) (pe_lst pa_nil))
        (pss_cons (ps_for PassesOwn.never rfl (pi_tup (pe_ix ix_tup (pv 0) pe_int (fun _ _ => rfl))) (pg_name (i := 5) scItemText.nd rfl (.inl rfl))
          (pss_cons (ps_set (i := 2) scItemText.nd rfl (.inl rfl) (pe_call G_law_member_text (hr.mono (by omega)) (by rfl) L.g_law_member_text L.f_law_member_text.kp L.b_law_member_text .nil pass0 (pa_cons (pv 5) (pa_cons (pe_op op_add (pv 1) (pe_callB call_lenE (by rfl) B.len PySem.boot_len (pa_cons (pv 3) pa_nil))) pa_nil))))
          (pss_cons (ps_set (i := 3) scItemText.nd rfl (.inl rfl) (pe_op op_catE (pe_op op_catE (pv 3) (pe_ix ix_list (pv 2) pe_int (fun _ _ => rfl))) (pe_lit [32] (by decide +kernel))))
          (pss_one (ps_expr (pe_bm PySem.F.plainAttrs_list PySem.F.slot_list_append PySem.F.type_list_append mt_append (pv 4) (pa_cons (pe_ix ix_list (pv 2) pe_int (fun _ _ => rfl)) pa_nil)))))))
        (pss_one (ps_ret (pe_lst (pa_cons (pv 3) (pa_cons (pe_tup (pa_cons pe_str (pa_cons (pe_callTy call_tuple_of (by rfl) B.tuple (by decide +kernel) (pa_cons (pv 4) pa_nil)) pa_nil))) pa_nil))))))))
        pss_nil)
      (pss_one (ps_ret (pe_call G_law_statement_text (hr.mono (by omega)) (by rfl) L.g_law_statement_text L.f_law_statement_text.kp L.b_law_statement_text .nil pass0 (pa_cons (pv 0) (pa_cons (pv 1) pa_nil)))))), ?_⟩
  cases w with
  | @let_ _ e _ _ s1 e1 x hm w1 =>
    obtain ⟨q0, x, y, z, rfl, hs, hx, hy, hz⟩ := tp_3 hv
    cases tp_int hx
    cases tp_str hy
    refine ⟨_, rfl, _, _, _, (.str "let"), rfl, rfl, hs, rfl, rfl, _, rfl, ite2 (fun _ => ?_) (fun e => absurd (by decide +kernel) e)⟩
    refine ⟨_, rfl, _, _, _, z, rfl, rfl, hs, rfl, _, rfl, _, _, rfl, rfl, _, rfl, _, _, _, (.str (S x)), rfl, rfl, hs, rfl, _, _, rfl, (by simp only [List.length_append, List.length_cons, List.length_nil, LIM_eq] at hl ⊢; omega), rfl, _, _, rfl, rfl, _, _, rfl, rfl, _, _, _, _, _, _, _, rfl, hz, w1, (by simp only [List.length_append, List.length_cons, List.length_nil, LIM_eq] at hl ⊢; omega), fun H1 y1 v1 m1 t1 h1 => ?_⟩
    replace hs := sqt_same m1 hs
    replace hv := tp_same m1 hv
    replace hz := tp_same m1 hz
    have sm2 := m1
    refine ⟨_, rfl, _, _, _, (.str (S x)), rfl, rfl, hs, rfl, _, _, _, rfl, rfl, rfl, (by simp only [List.length_append, List.length_cons, List.length_nil, LIM_eq] at hl ⊢; omega), _, _, _, rfl, rfl, rfl, (by simp only [List.length_append, List.length_cons, List.length_nil, LIM_eq] at hl ⊢; omega), _, rfl, _, _, _, (.str (S s1)), rfl, rfl, (SqL.of t1), rfl, _, _, _, rfl, rfl, rfl, (by simp only [List.length_append, List.length_cons, List.length_nil, LIM_eq] at hl ⊢; omega), _, _, _, rfl, rfl, rfl, (by simp only [List.length_append, List.length_cons, List.length_nil, LIM_eq] at hl ⊢; omega), _, rfl, _, _, rfl, rfl, _, rfl, _, _, _, (.str (S x)), rfl, rfl, hs, rfl, _, rfl, _, _, _, v1, rfl, rfl, (SqL.of t1), rfl, (by show 4 ≤ sizeLine; decide), fun y3 n3 => ?_⟩
    have tp3 := tp_new (K := K) (xs := [(.str "let"), (.int (at_ + 4)), (.str (S x)), v1]) n3 (.cons (.str _) (.cons (.int _) (.cons (.str _) (.cons h1 .nil))))
    have ob3 := sqt_new (K := K) (xs := [(.str "let"), (.int (at_ + 4)), (.str (S x)), v1]) n3
    have m3 := same_upd (o := HO.tup [(.str "let"), (.int (at_ + 4)), (.str (S x)), v1]) n3
    replace hs := sqt_same m3 hs
    replace hv := tp_same m3 hv
    replace hz := tp_same m3 hz
    replace t1 := m3 _ _ t1
    replace h1 := tp_same m3 h1
    have sm4 := Same.tr sm2 m3
    refine ⟨(by show 2 ≤ sizeLine; decide), fun y5 n5 => ?_⟩
    exact q _ _ _ (Same.ly sm4 n5) upd_same (tp_same (same_upd n5) tp3)
  | @group _ ms _ _ _ ms1 hn1 hn wm =>
    obtain ⟨q0, v1, rfl, hs, h1⟩ := tp_1 hv
    obtain ⟨qp, xs, rfl, hp, hx⟩ := tp_t h1
    obtain ⟨hlen, T, T0, Tn, Tf, Tl⟩ := iw_steps wm
    have hxl := tpa_len hx
    refine ⟨_, rfl, _, _, _, (.str "group"), rfl, rfl, hs, rfl, rfl, _, rfl, ite2 (fun e => absurd e (by decide +kernel)) (fun _ => ?_)⟩
    refine ⟨_, rfl, _, _, _, (.str "group"), rfl, rfl, hs, rfl, rfl, _, rfl, ite2 (fun _ => ?_) (fun e => absurd (by decide +kernel) e)⟩
    refine ⟨Nat.zero_le _, fun l nl => ?_⟩
    refine ⟨_, rfl, _, _, _, (.ref qp), rfl, rfl, sqt_same (same_upd nl) hs, rfl, qp, rfl, ⟨_, sqt_same (same_upd nl) hp⟩, for_tup (K := K) (a := qp) (xs := xs) (fun i σ H' => ∃ (y2 y5 : Option V) (fs : List V), σ = [some (.ref q0), some (.int at_), y2, some (.str (S (T i))), some (.ref l), y5] ∧ Same H H' ∧ H' l = some (.lst fs) ∧ fs.length = i ∧ TpAll K H' fs (ms1.take i))
      ⟨none, none, [], by rw [T0]; rfl, same_upd nl, upd_same, rfl, .nil⟩ ?_ ?_ ?_⟩
    · rintro i σ H' _ ⟨y4, y5, fs, rfl, sm, hf, hfl, hfa⟩
      exact sqt_same sm hp
    · rintro i vv σ H' ev ⟨y4, y5, fs, rfl, sm, hf, hfl, hfa⟩
      have hi' : i < ms.length := by
        have := (List.getElem?_eq_some_iff.mp ev).1
        omega
      obtain ⟨dd, dd', b1, c1, t, e1, e2, e3, e4⟩ := Tf i hi'
      have hL := Tl (i + 1) (by omega)
      rw [e4] at hL
      have hl := Nat.le_trans hL hl
      obtain ⟨v9, ev9, hvv⟩ := tpa_at hx e1
      cases Option.some.inj (ev.symm.trans ev9)
      refine ⟨_, rfl, _, rfl, _, rfl, _, _, rfl, (by simp only [List.length_append, List.length_cons, List.length_nil, LIM_eq] at hl ⊢; omega), rfl, _, _, rfl, rfl, ?_⟩
      refine ⟨_, _, _, _, _, _, _, rfl, tp_same sm hvv, e3, (by simp only [List.length_append, List.length_cons, List.length_nil, LIM_eq] at hl ⊢; omega), fun H3 y3 v3 m3 t3 h3 => ?_⟩
      refine ⟨_, rfl, _, rfl, _, _, _, (.str (S t)), rfl, rfl, SqL.of t3, rfl, _, _, _, rfl, rfl, rfl, (by simp only [List.length_append, List.length_cons, List.length_nil, LIM_eq] at hl ⊢; omega), _, _, _, rfl, rfl, rfl, (by simp only [List.length_append, List.length_cons, List.length_nil, LIM_eq] at hl ⊢; omega), ?_⟩
      have hf3 := m3 _ _ hf
      refine ⟨_, rfl, .inl ⟨rfl, _, SqL.of hf3⟩, _, rfl, _, _, _, v3, rfl, rfl, SqL.of t3, rfl, l, fs, _, rfl, rfl, hf3, (by rw [sizeLine_eq]; omega), _, _, fs ++ [v3], by rw [e4]; rfl, ?_, upd_same, by rw [List.length_append, hfl]; rfl, ?_⟩
      · exact fun x o e => by
          rw [upd_ne (fun z => by rw [z, nl] at e; cases e)]
          exact m3 _ _ (sm _ _ e)
      · rw [take_snoc e2]
        exact tpa_lst hf3 (tpa_snoc (tpa_same m3 hfa) h3)
    · rintro σ H' ⟨y4, y5, fs, rfl, sm, hf, hfl, hfa⟩
      rw [hxl] at hfl hfa
      rw [← hlen, List.take_length] at hfa
      refine ⟨_, rfl, _, rfl, l, fs, rfl, .inl ⟨SqL.of hf, fun y ny => ⟨(by show 2 ≤ sizeLine; decide), fun z nz => ⟨(by show 2 ≤ sizeLine; decide), fun z2 nz2 => ?_⟩⟩⟩⟩
      rw [hxl, Tn]
      exact q _ _ _ (Same.ly (Same.ly (Same.ly sm ny) nz) nz2) upd_same (tp_same (same_upd nz2) (tp_new nz (.cons (.str _) (.cons (tp_new ny hfa) .nil))))
  | st w1 =>
    obtain ⟨kd, fs, rfl, z1, z2⟩ := hS w1
    have hv0 := hv
    obtain ⟨q0, r, rfl, hs, ha⟩ := tp_head hv
    refine ⟨_, rfl, _, _, _, (.str kd), rfl, rfl, hs, atI_zero, rfl, _, rfl, ite2 (fun e => absurd e (ne_k z1)) (fun _ => ?_)⟩
    refine ⟨_, rfl, _, _, _, (.str kd), rfl, rfl, hs, atI_zero, rfl, _, rfl, ite2 (fun e => absurd e (ne_k z2)) (fun _ => ?_)⟩
    refine ⟨_, rfl, _, rfl, _, _, _, _, _, _, _, rfl, hv0, w1, hl, fun H2 y2 v2 m2 t2 h2 => ?_⟩
    exact q _ _ _ m2 t2 h2
/-! ### _law_member_text -/
theorem cut_this : ∀ j, j ≤ 3 → ¬ (HT.sIx (((([cs "this"] ++ abcd.take j)).map S).map V.str).length 0 (some 1) = 0 ∧ HT.sIx (((([cs "this"] ++ abcd.take j)).map S).map V.str).length (((([cs "this"] ++ abcd.take j)).map S).map V.str).length none = (((([cs "this"] ++ abcd.take j)).map S).map V.str).length) ∧
    cutV (((([cs "this"] ++ abcd.take j)).map S).map V.str) (some 1) none = (abcd.take j).map fun x => V.str (S x) := fun j h => by
  have : j = 0 ∨ j = 1 ∨ j = 2 ∨ j = 3 := by omega
  rcases this with rfl | rfl | rfl | rfl <;> exact ⟨by decide +kernel, by decide +kernel⟩
theorem scMemberText : FnScope ["member", "at", "term", "told", "text", "parent", "methods", "method", "offset"] ["member", "at"] (defScope sMemberText) := ⟨rfl, rfl, rfl, by decide +kernel, rfl, by decide +kernel, by decide +kernel⟩
theorem ok_member_text {Bk : Rl} {k : Nat} (L : TW K mg a d) (B : Bl mg) (G_law_body : FnOk P w K mg base CX0 k (a 6) (d 6) ["term", "at", "names"] (spBody K Bk)) : FnOk P w K mg base CX0 (k + 1) (a 10) (d 10) ["member", "at"] (spW K (MemF Bk)) := by
  refine L.f_law_member_text.ok scMemberText spW_len (fun cdv A outer s H vs Q E hr h => ?_)
  obtain ⟨v, d0, a0, b0, at_, s0, d0', rfl, hv, w, hl, q⟩ := h
  refine ⟨_, pss_cons (ps_set (i := 2) scMemberText.nd rfl (.inl rfl) (pe_ix ix_tup (pv 0) pe_int (fun _ _ => rfl)))
      (pss_cons (ps_if (pt_cmpR op_eq (pe_ix ix_tup (pv 2) pe_int (fun _ _ => rfl)) pe_str (nomark _))
        (pss_cons (ps_set (i := 3) scMemberText.nd rfl (.inl rfl) (pe_call G_law_body (hr.mono (by omega)) (by rfl) L.g_law_body L.f_law_body.kp L.b_law_body .nil pass0 (pa_cons (pv 2) (pa_cons (pe_op op_add (pe_op op_add (pv 1) pe_int) (pe_callB call_lenE (by rfl) B.len PySem.boot_len (pa_cons (pe_ix ix_tup (pv 0) pe_int (fun _ _ => rfl)) pa_nil))) (pa_cons (pe_ix ix_tup (pv 2) pe_int (fun _ _ => rfl)) pa_nil)))))
        (pss_one (ps_ret (pe_lst (pa_cons (pe_op op_catE (pe_op op_catE (pe_lit (cs "fun ") (by decide +kernel)) (pe_ix ix_tup (pv 0) pe_int (fun _ _ => rfl))) (pe_ix ix_list (pv 3) pe_int (fun _ _ => rfl))) (pa_cons (pe_tup (pa_cons (pe_op op_add (pv 1) pe_int) (pa_cons (pe_ix ix_tup (pv 0) pe_int (fun _ _ => rfl)) (pa_cons (pe_tup (pa_cons pe_str (pa_cons (pv 1) (pa_cons (pe_ix ix_tup (pv 2) pe_int (fun _ _ => rfl)) (pa_cons (pe_ix ix_tup (pv 2) pe_int (fun _ _ => rfl)) (pa_cons (pe_ix ix_list (pv 3) pe_int (fun _ _ => rfl)) pa_nil)))))) pa_nil)))) pa_nil))))))
        pss_nil)
      (pss_cons (ps_set (i := 4) scMemberText.nd rfl (.inl rfl) (pe_op op_catE (pe_lit (cs "class ") (by decide +kernel)) (pe_ix ix_tup (pv 2) pe_int (fun _ _ => rfl))))
      (pss_cons (ps_set (i := 5) scMemberText.nd rfl (.inl rfl) (pe_ix ix_tup (pv 2) pe_int (fun _ _ => rfl)))
      (pss_cut (ps_if (pt_cmpR op_notN (pv 5) pe_non (nomark _))
        (pss_cons (ps_set (i := 5) scMemberText.nd rfl (.inl rfl) (pe_tup (pa_cons pe_str (pa_cons (pe_op op_add (pv 1) (pe_callB call_lenE (by rfl) B.len PySem.boot_len (pa_cons (pe_op op_catE (pv 4) (pe_lit (cs " extends ") (by decide +kernel))) pa_nil))) (pa_cons (pe_ix ix_tup (pv 5) pe_int (fun _ _ => rfl)) pa_nil)))))
        (pss_one (ps_set (i := 4) scMemberText.nd rfl (.inl rfl) (pe_op op_catE (pe_op op_catE (pv 4) (pe_lit (cs " extends ") (by decide +kernel))) (pe_ix ix_tup (pv 5) pe_int (fun _ _ => rfl))))))
        pss_nil)
      (pss_cons (ps_set (i := 4) scMemberText.nd rfl (.inl rfl) (pe_op op_catE (pv 4) (pe_lit [123] (by decide +kernel))))
      (pss_cons (ps_set (i := 6) scMemberText.nd rfl (.inl rfl) (pe_lst pa_nil))
      (pss_cons (ps_for PassesOwn.never rfl (pi_tup (pe_ix ix_tup (pv 2) pe_int (fun _ _ => rfl))) (pg_name (i := 7) scMemberText.nd rfl (.inl rfl))
        (pss_cons (ps_set (i := 8) scMemberText.nd rfl (.inl rfl) (pe_op op_add (pv 1) (pe_callB call_lenE (by rfl) B.len PySem.boot_len (pa_cons (pv 4) pa_nil))))
        (pss_cons (ps_set (i := 3) scMemberText.nd rfl (.inl rfl) (pe_call G_law_body (hr.mono (by omega)) (by rfl) L.g_law_body L.f_law_body.kp L.b_law_body .nil pass0 (pa_cons (pe_ix ix_tup (pv 7) pe_int (fun _ _ => rfl)) (pa_cons (pe_op op_add (pv 8) (pe_callB call_lenE (by rfl) B.len PySem.boot_len (pa_cons (pe_ix ix_tup (pv 7) pe_int (fun _ _ => rfl)) pa_nil))) (pa_cons (pe_slice sl_tup (pe_ix ix_tup (pe_ix ix_tup (pv 7) pe_int (fun _ _ => rfl)) pe_int (fun _ _ => rfl)) (po_some pe_int) po_none) pa_nil)))))
        (pss_cons (ps_set (i := 4) scMemberText.nd rfl (.inl rfl) (pe_op op_catE (pe_op op_catE (pv 4) (pe_ix ix_tup (pv 7) pe_int (fun _ _ => rfl))) (pe_ix ix_list (pv 3) pe_int (fun _ _ => rfl))))
        (pss_one (ps_expr (pe_bm PySem.F.plainAttrs_list PySem.F.slot_list_append PySem.F.type_list_append mt_append (pv 6) (pa_cons (pe_tup (pa_cons (pe_ix ix_tup (pv 7) pe_int (fun _ _ => rfl)) (pa_cons (pe_tup (pa_cons pe_str (pa_cons (pv 8) (pa_cons (pe_ix ix_tup (pe_ix ix_tup (pv 7) pe_int (fun _ _ => rfl)) pe_int (fun _ _ => rfl)) (pa_cons (pe_ix ix_tup (pe_ix ix_tup (pv 7) pe_int (fun _ _ => rfl)) pe_int (fun _ _ => rfl)) (pa_cons (pe_ix ix_list (pv 3) pe_int (fun _ _ => rfl)) pa_nil)))))) pa_nil))) pa_nil))))))))
      (pss_one (ps_ret (pe_lst (pa_cons (pe_op op_catE (pv 4) (pe_lit [125] (by decide +kernel))) (pa_cons (pe_tup (pa_cons (pe_op op_add (pv 1) pe_int) (pa_cons (pe_ix ix_tup (pv 0) pe_int (fun _ _ => rfl)) (pa_cons (pe_tup (pa_cons pe_str (pa_cons (pv 1) (pa_cons (pe_ix ix_tup (pv 2) pe_int (fun _ _ => rfl)) (pa_cons (pv 5) (pa_cons (pe_callTy call_tuple_of (by rfl) B.tuple (by decide +kernel) (pa_cons (pv 6) pa_nil)) pa_nil)))))) pa_nil)))) pa_nil)))))))))))), ?_⟩
  cases w with
  | @fn _ _ _ _ s1 _ w1 =>
    cases w1 with
    | @mk _ body _ _ s2 body1 j hj wb =>
      obtain ⟨q0, xs, rfl, hs, hxs⟩ := tp_t hv
      obtain ⟨x0, xs, rfl, hx0, hxs⟩ := tpa_c hxs
      obtain ⟨y0, xs, rfl, hy0, hxs⟩ := tpa_c hxs
      obtain ⟨z0, xs, rfl, hz0, hxs⟩ := tpa_c hxs
      cases tpa_n hxs
      cases tp_int hx0
      cases tp_str hy0
      obtain ⟨qf, x, y, z, u, rfl, hsf, hx, hy, hz, hu⟩ := tp_4 hz0
      cases tp_int hx
      refine ⟨_, rfl, _, _, _, (.ref qf), rfl, rfl, hs, rfl, ?_⟩
      refine ⟨_, rfl, _, _, _, (.str "function"), rfl, rfl, hsf, rfl, rfl, _, rfl, ite2 (fun _ => ?_) (fun e => absurd (by decide +kernel) e)⟩
      refine ⟨_, rfl, _, rfl, _, _, rfl, rfl, _, rfl, _, _, _, (.str "f"), rfl, rfl, hs, rfl, [102], 1, (congrArg (fun z => [V.str z]) (by decide +kernel)), (by decide +kernel), (by decide +kernel), _, _, rfl, rfl, _, rfl, _, _, _, z, rfl, rfl, hsf, rfl, _, _, _, _, _, _, _, _, _, _, _, _, _, rfl, hsf, hu, hz, wb, (by simp only [List.length_append, List.length_cons, List.length_nil, LIM_eq] at hl ⊢; omega), fun H6 y6 v6 m6 t6 h6 => ?_⟩
      replace hs := sqt_same m6 hs
      replace hsf := sqt_same m6 hsf
      replace hz0 := tp_same m6 hz0
      replace hv := tp_same m6 hv
      replace hy := tp_same m6 hy
      replace hz := tp_same m6 hz
      replace hu := tp_same m6 hu
      have sm7 := m6
      refine ⟨_, rfl, _, _, _, (.str "f"), rfl, rfl, hs, rfl, _, (cs "f"), (cs "fun f"), rfl, (congrArg V.str (by decide +kernel)), (by decide +kernel), (by simp only [List.length_append, List.length_cons, List.length_nil, LIM_eq] at hl ⊢; omega), _, rfl, _, _, _, (.str (S (headN ([] ++ abcd.take j) ++ s2))), rfl, rfl, (SqL.of t6), rfl, _, _, _, rfl, rfl, rfl, (by simp only [List.length_append, List.length_cons, List.length_nil, LIM_eq] at hl ⊢; omega), _, rfl, _, _, rfl, rfl, _, rfl, _, _, _, (.str "f"), rfl, rfl, hs, rfl, _, rfl, _, rfl, _, _, _, y, rfl, rfl, hsf, rfl, _, rfl, _, _, _, z, rfl, rfl, hsf, rfl, _, rfl, _, _, _, v6, rfl, rfl, (SqL.of t6), rfl, (by show 5 ≤ sizeLine; decide), fun y8 n8 => ?_⟩
      have tp8 := tp_new (K := K) (xs := [(.str "function"), (.int at_), y, z, v6]) n8 (.cons (.str _) (.cons (.int _) (.cons hy (.cons hz (.cons h6 .nil)))))
      have ob8 := sqt_new (K := K) (xs := [(.str "function"), (.int at_), y, z, v6]) n8
      have m8 := same_upd (o := HO.tup [(.str "function"), (.int at_), y, z, v6]) n8
      replace hs := sqt_same m8 hs
      replace hsf := sqt_same m8 hsf
      replace hz0 := tp_same m8 hz0
      replace hv := tp_same m8 hv
      replace hy := tp_same m8 hy
      replace hz := tp_same m8 hz
      replace hu := tp_same m8 hu
      replace t6 := m8 _ _ t6
      replace h6 := tp_same m8 h6
      have sm9 := Same.tr sm7 m8
      refine ⟨(by show 3 ≤ sizeLine; decide), fun y10 n10 => ?_⟩
      have tp10 := tp_new (K := K) (xs := [(.int (at_ + 4)), (.str "f"), (.ref y8)]) n10 (.cons (.int _) (.cons (.str _) (.cons tp8 .nil)))
      have ob10 := sqt_new (K := K) (xs := [(.int (at_ + 4)), (.str "f"), (.ref y8)]) n10
      have m10 := same_upd (o := HO.tup [(.int (at_ + 4)), (.str "f"), (.ref y8)]) n10
      replace hs := sqt_same m10 hs
      replace hsf := sqt_same m10 hsf
      replace hz0 := tp_same m10 hz0
      replace hv := tp_same m10 hv
      replace hy := tp_same m10 hy
      replace hz := tp_same m10 hz
      replace hu := tp_same m10 hu
      replace t6 := m10 _ _ t6
      replace h6 := tp_same m10 h6
      replace ob8 := sqt_same m10 ob8
      replace tp8 := tp_same m10 tp8
      have sm11 := Same.tr sm9 m10
      refine ⟨(by show 2 ≤ sizeLine; decide), fun y12 n12 => ?_⟩
      exact q _ _ _ (Same.ly sm11 n12) upd_same (tp_same (same_upd n12) tp10)
  | @cls _ ms _ _ s1 ms1 p hn wm =>
    obtain ⟨q0, xs, rfl, hs, hxs⟩ := tp_t hv
    obtain ⟨x0, xs, rfl, hx0, hxs⟩ := tpa_c hxs
    obtain ⟨y0, xs, rfl, hy0, hxs⟩ := tpa_c hxs
    obtain ⟨z0, xs, rfl, hz0, hxs⟩ := tpa_c hxs
    cases tpa_n hxs
    cases tp_int hx0
    cases tp_str hy0
    obtain ⟨qc, x, y, vp0, vms, rfl, hc, hx, hy, hp0, hms⟩ := tp_4 hz0
    cases tp_int hx
    cases tp_str hy
    obtain ⟨qm, ws, rfl, hqm, hws⟩ := tp_t hms
    obtain ⟨hlen, T, T0, Tn, Tf, Tl⟩ := mw_steps wm
    have hxl := tpa_len hws
    refine ⟨_, rfl, q0, _, _, (.ref qc), rfl, rfl, hs, rfl, ?_⟩
    refine ⟨_, rfl, qc, _, _, (.str "class"), rfl, rfl, hc, rfl, rfl, _, rfl, ite2 (fun e => absurd e (by decide +kernel)) (fun _ => ?_)⟩
    refine ⟨_, rfl, qc, _, _, (.str "A"), rfl, rfl, hc, rfl, _, (cs "A"), (cs "class A"), rfl, (congrArg V.str (by decide +kernel)), (by decide +kernel), (by decide +kernel), ?_⟩
    refine ⟨_, rfl, qc, _, _, vp0, rfl, rfl, hc, rfl, ?_⟩
    refine ⟨fun σ' H' => ∃ vp : V, σ' = [some (.ref q0), some (.int at_), some (.ref qc), none, some (.str (S (if p = true then cs "class A extends B" else cs "class A"))), some vp, none, none, none] ∧ Same H H' ∧ Tp K H' vp (if p = true then tup "name" [.int (at_ + 16), .str "B"] else .none), ?_, ?_⟩
    · cases p with
      | false =>
        cases tp_non hp0
        exact ⟨_, rfl, rfl, _, rfl, ite2 (fun e => absurd e (by decide +kernel)) (fun _ => ⟨.non, rfl, Same.rf, .non⟩)⟩
      | true =>
        obtain ⟨qn, x1, x2, rfl, hn1, hx1, hx2⟩ := tp_2 (k := "name") (a := .int 0) (b := .str "B") hp0
        cases tp_int hx1
        cases tp_str hx2
        refine ⟨_, rfl, rfl, _, rfl, ite2 (fun _ => ?_) (fun e => absurd rfl e)⟩
        refine ⟨_, rfl, _, rfl, _, _, (cs "class A extends "), rfl, rfl, (by decide +kernel), (by decide +kernel), _, 16, rfl, (by decide +kernel), (by decide +kernel), _, _, rfl, rfl, _, rfl, qn, _, _, (.str "B"), rfl, rfl, hn1, rfl, (by show 3 ≤ sizeLine; decide), fun y1 n1 => ?_⟩
        refine ⟨_, rfl, _, _, (cs "class A extends "), rfl, rfl, (by decide +kernel), (by decide +kernel), _, rfl, y1, _, _, (.str "B"), rfl, rfl, sqt_new n1, rfl, _, (cs "B"), (cs "class A extends B"), rfl, (congrArg V.str (by decide +kernel)), (by decide +kernel), (by decide +kernel), ?_⟩
        exact ⟨_, rfl, same_upd n1, tp_new n1 (.cons (.str _) (.cons (.int _) (.cons (.str _) .nil)))⟩
    rintro σ' H1 ⟨vp, rfl, sm1, hvp⟩
    have ecl : (if p = true then cs "class A extends B" else cs "class A") ++ [123] = classHead p ∧ (classHead p).length ≤ 16777216 := by
      cases p with
      | false => exact ⟨by decide +kernel, by decide +kernel⟩
      | true => exact ⟨by decide +kernel, by decide +kernel⟩
    refine ⟨_, rfl, _, _, classHead p, rfl, rfl, ecl.1, ecl.2, ?_⟩
    refine ⟨Nat.zero_le _, fun l nl => ?_⟩
    refine ⟨_, rfl, qc, _, _, (.ref qm), rfl, rfl, sqt_same (Same.ly sm1 nl) hc, rfl, qm, rfl, ⟨_, sqt_same (Same.ly sm1 nl) hqm⟩, for_tup (K := K) (a := qm) (xs := ws) (fun i σ H' => ∃ (y3 y7 y8 : Option V) (fs : List V), σ = [some (.ref q0), some (.int at_), some (.ref qc), y3, some (.str (S (T i))), some vp, some (.ref l), y7, y8] ∧ Same H1 H' ∧ H' l = some (.lst fs) ∧ fs.length = i ∧ TpAll K H' fs (ms1.take i))
      ⟨none, none, none, [], by rw [T0]; rfl, same_upd nl, upd_same, rfl, .nil⟩ ?_ ?_ ?_⟩
    · rintro i σ H' _ ⟨y3, y7, y8, fs, rfl, sm, hf, hfl, hfa⟩
      exact sqt_same (Same.tr sm1 sm) hqm
    · rintro i vv σ H' ev ⟨y3, y7, y8, fs, rfl, sm, hf, hfl, hfa⟩
      have hi' : i < ms.length := by
        have := (List.getElem?_eq_some_iff.mp ev).1
        omega
      obtain ⟨m, dd, dd', b1, c1, t, hm, e1, e2, e3, e4⟩ := Tf i hi'
      have hL := Tl (i + 1) (by omega)
      rw [e4] at hL
      have hl : (T i ++ m ++ t).length ≤ LIM := by
        rw [List.length_append] at hl
        omega
      obtain ⟨v9, ev9, hvv⟩ := tpa_at hws e1
      cases Option.some.inj (ev.symm.trans ev9)
      replace hvv := tp_same (Same.tr sm1 sm) hvv
      obtain ⟨qi, us, rfl, hqi, hus⟩ := tp_t hvv
      obtain ⟨u0, us, rfl, hu0, hus⟩ := tpa_c hus
      obtain ⟨u1, us, rfl, hu1, hus⟩ := tpa_c hus
      cases tpa_n hus
      cases tp_str hu0
      cases e3 with
      | @mk _ body _ _ s2 body1 j hj wb =>
      obtain ⟨qf, x, y, vns, u, rfl, hqf, hx, hy, hz, hu⟩ := tp_4 hu1
      cases tp_int hx
      obtain ⟨qps, ns, rfl, hqps, hns⟩ := tp_t hz
      cases tpa_strs_inv ([cs "this"] ++ abcd.take j) hns
      obtain ⟨cut1, cut2⟩ := cut_this j hj
      refine ⟨_, rfl, _, rfl, _, _, rfl, (by simp only [List.length_append, List.length_cons, List.length_nil, LIM_eq] at hl ⊢; omega), rfl, _, _, rfl, rfl, ?_⟩
      refine ⟨_, rfl, qi, _, _, (.ref qf), rfl, rfl, hqi, rfl, _, rfl, _, rfl, qi, _, _, (.str (S m)), rfl, rfl, hqi, rfl, _, _, rfl, (by simp only [List.length_append, List.length_cons, List.length_nil, LIM_eq] at hl ⊢; omega), rfl, _, _, rfl, rfl, _, rfl, qi, _, _, (.ref qf), rfl, rfl, hqi, rfl, qf, _, _, (.ref qps), rfl, rfl, hqf, rfl, _, rfl, qps, _, rfl, hqps, cut1, fun z nz => ?_⟩
      rw [cut2]
      have mz := same_upd (o := HO.tup ((abcd.take j).map fun x => V.str (S x))) nz
      refine ⟨_, _, _, _, _, _, _, _, _, [] ++ abcd.take j, _, _, _, rfl, sqt_same mz hqf, tp_same mz hu, tp_new nz (tpa_strs _), wb, (by simp only [List.length_append, List.length_cons, List.length_nil, LIM_eq] at hl ⊢; omega), fun H3 y3 v3 m3 t3 h3 => ?_⟩
      have mm := Same.tr mz m3
      replace hqi := sqt_same mm hqi
      replace hqf := sqt_same mm hqf
      replace hz := tp_same mm hz
      replace hy := tp_same mm hy
      refine ⟨_, rfl, _, rfl, qi, _, _, (.str (S m)), rfl, rfl, hqi, rfl, _, _, _, rfl, rfl, rfl, (by simp only [List.length_append, List.length_cons, List.length_nil, LIM_eq] at hl ⊢; omega), _, rfl, _, _, _, (.str (S (headN ([] ++ abcd.take j) ++ s2))), rfl, rfl, SqL.of t3, rfl, _, _, _, rfl, rfl, rfl, (by simp only [List.length_append, List.length_cons, List.length_nil, LIM_eq] at hl ⊢; omega), ?_⟩
      have hf3 := mm _ _ hf
      refine ⟨_, rfl, .inl ⟨rfl, _, SqL.of hf3⟩, _, rfl, qi, _, _, (.str (S m)), rfl, rfl, hqi, rfl, _, rfl, _, rfl, qi, _, _, (.ref qf), rfl, rfl, hqi, rfl, qf, _, _, y, rfl, rfl, hqf, rfl, _, rfl, qi, _, _, (.ref qf), rfl, rfl, hqi, rfl, qf, _, _, (.ref qps), rfl, rfl, hqf, rfl, _, rfl, _, _, _, v3, rfl, rfl, SqL.of t3, rfl, (by show 5 ≤ sizeLine; decide), fun z1 nz1 => ⟨(by show 2 ≤ sizeLine; decide), fun z2 nz2 => ?_⟩⟩
      have mt := Same.ly (same_upd (o := HO.tup [.str "function", .int (at_ + len (T i)), y, .ref qps, v3]) nz1) (o := HO.tup [.str (S m), .ref z1]) nz2
      have hf5 := mt _ _ hf3
      refine ⟨l, fs, _, rfl, rfl, hf5, (by rw [sizeLine_eq]; omega), _, _, _, fs ++ [.ref z2], by rw [e4]; rfl, ?_, upd_same, by rw [List.length_append, hfl]; rfl, ?_⟩
      · exact fun x o e => by
          rw [upd_ne (fun z => by rw [z, nl] at e; cases e)]
          exact mt _ _ (mm _ _ (sm _ _ e))
      · rw [take_snoc e2]
        exact tpa_lst hf5 (tpa_snoc (tpa_same mt (tpa_same mm hfa)) (tp_new nz2 (.cons (.str _) (.cons (tp_new nz1 (.cons (.str _) (.cons (.int _) (.cons hy (.cons hz (.cons h3 .nil)))))) .nil))))
    · rintro σ H' ⟨y3, y7, y8, fs, rfl, sm, hf, hfl, hfa⟩
      rw [hxl] at hfl hfa
      rw [← hlen, List.take_length] at hfa
      have smA := Same.tr sm1 sm
      have el : (T ws.length ++ [125]).length ≤ 16777216 := by
        rw [hxl, Tn]
        exact Nat.le_trans hl (by decide)
      refine ⟨_, rfl, _, _, _, rfl, rfl, rfl, el, _, rfl, _, _, rfl, rfl, _, rfl, q0, _, _, (.str "A"), rfl, rfl, sqt_same smA hs, rfl, _, rfl, _, rfl, qc, _, _, (.str "A"), rfl, rfl, sqt_same smA hc, rfl, _, rfl, _, rfl, l, fs, rfl, .inl ⟨SqL.of hf, fun y ny => ⟨(by show 5 ≤ sizeLine; decide), fun z1 nz1 => ⟨(by show 3 ≤ sizeLine; decide), fun z2 nz2 => ⟨(by show 2 ≤ sizeLine; decide), fun z3 nz3 => ?_⟩⟩⟩⟩⟩
      rw [hxl, Tn]
      exact q _ _ _ (Same.ly (Same.ly (Same.ly (Same.ly smA ny) nz1) nz2) nz3) upd_same (tp_same (same_upd nz3) (tp_new nz2 (.cons (.int _) (.cons (.str _) (.cons (tp_new nz1 (.cons (.str _) (.cons (.int _) (.cons (.str _) (.cons (tp_same (Same.ly sm ny) hvp) (.cons (tp_new ny hfa) .nil)))))) .nil)))))
end
end My
namespace My
open PySem L2 SX CwR
open C8 (pss_cut tCut cutS_slice pe_gc)
def cpK (k : Str) : Bool := k == "while" || k == "for" || k == "if"
def CpR (E0 E St Bk : Rl) : Rl := fun a d b at_ s d' => StF E0 E St Bk a d b at_ s d' ∧ cpK (headS d) = true
section
variable {P : Program} {w : World} {K : PySem.W.Frag} {mg : Str → Option Value} {base : Heap} {a : Nat → Addr} {d : Nat → FuncData}
/-! ### _law_statement_text -/
theorem scStatementText : FnScope ["term", "at", "kind", "told", "text", "other"] ["term", "at"] (defScope sStatementText) := ⟨rfl, rfl, rfl, by decide +kernel, rfl, by decide +kernel, by decide +kernel⟩
theorem ok_statement_text {R0 R St Bk : Rl} {k : Nat} (L : TW K mg a d) (B : Bl mg) (h0 : ∀ {a at_}, R0 a (tup "null" []) a at_ (cs "null") (tup "null" [])) (hB : ∀ {a d b at_ s d'}, Bk a d b at_ s d' → ∃ fs, d = tup "block" fs)
    (G_law_write : FnOk P w K mg base CX0 k (a 2) (d 2) ["term", "at"] (spW K (OrR R0 R))) (G_law_block_text : FnOk P w K mg base CX0 k (a 7) (d 7) ["block", "at"] (spW K Bk)) (G_law_compound_text : FnOk P w K mg base CX0 k (a 12) (d 12) ["term", "at"] (spW K (CpR R0 R St Bk))) :
    FnOk P w K mg base CX0 (k + 1) (a 11) (d 11) ["term", "at"] (spW K (StF R0 R St Bk)) := by
  refine L.f_law_statement_text.ok scStatementText spW_len (fun cdv A outer s H vs Q E hr h => ?_)
  obtain ⟨v, d0, a0, b0, at_, s0, d0', rfl, hv, w, hl, q⟩ := h
  refine ⟨_, pss_cons (ps_set (i := 2) scStatementText.nd rfl (.inl rfl) (pe_ix ix_tup (pv 0) pe_int (fun _ _ => rfl)))
      (pss_cons (ps_if (pt_cmpR op_eq (pv 2) pe_str (nomark _))
        (pss_cons (ps_set (i := 3) scStatementText.nd rfl (.inl rfl) (pe_call G_law_write (hr.mono (by omega)) (by rfl) L.g_law_write L.f_law_write.kp L.b_law_write .nil pass0 (pa_cons (pe_ix ix_tup (pv 0) pe_int (fun _ _ => rfl)) (pa_cons (pe_op op_add (pv 1) pe_int) pa_nil))))
        (pss_one (ps_ret (pe_lst (pa_cons (pe_op op_catE (pe_op op_catE (pe_lit [40] (by decide +kernel)) (pe_ix ix_list (pv 3) pe_int (fun _ _ => rfl))) (pe_lit (cs ");") (by decide +kernel))) (pa_cons (pe_tup (pa_cons pe_str (pa_cons (pe_ix ix_list (pv 3) pe_int (fun _ _ => rfl)) pa_nil))) pa_nil))))))
        pss_nil)
      (pss_cons (ps_if (pt_cmpR op_eq (pv 2) pe_str (nomark _))
        (pss_one (ps_ret (pe_call G_law_block_text (hr.mono (by omega)) (by rfl) L.g_law_block_text L.f_law_block_text.kp L.b_law_block_text .nil pass0 (pa_cons (pv 0) (pa_cons (pv 1) pa_nil)))))
        pss_nil)
      (pss_cons (ps_if (pt_cmpR op_in_seq (pv 2) (pe_tup (pa_cons pe_str (pa_cons pe_str pa_nil))) (by rfl))
        (pss_one (ps_ret (pe_lst (pa_cons (pe_op op_catE (pv 2) (pe_lit [59] (by decide +kernel))) (pa_cons (pe_tup (pa_cons (pv 2) (pa_cons (pv 1) pa_nil))) pa_nil)))))
        pss_nil)
      (pss_cons (ps_if (pt_cmpR op_in_seq (pv 2) (pe_tup (pa_cons pe_str (pa_cons pe_str pa_nil))) (by rfl))
        (pss_cons (ps_set (i := 3) scStatementText.nd rfl (.inl rfl) (pe_call G_law_write (hr.mono (by omega)) (by rfl) L.g_law_write L.f_law_write.kp L.b_law_write .nil pass0 (pa_cons (pe_ix ix_tup (pv 0) pe_int (fun _ _ => rfl)) (pa_cons (pe_op op_add (pe_op op_add (pv 1) (pe_callB call_lenE (by rfl) B.len PySem.boot_len (pa_cons (pv 2) pa_nil))) pe_int) pa_nil))))
        (pss_one (ps_ret (pe_lst (pa_cons (pe_op op_catE (pe_op op_catE (pe_op op_catE (pv 2) (pe_lit [32] (by decide +kernel))) (pe_ix ix_list (pv 3) pe_int (fun _ _ => rfl))) (pe_lit [59] (by decide +kernel))) (pa_cons (pe_tup (pa_cons (pv 2) (pa_cons (pv 1) (pa_cons (pe_ix ix_list (pv 3) pe_int (fun _ _ => rfl)) pa_nil)))) pa_nil))))))
        pss_nil)
      (pss_cons (ps_if (pt_cmpR op_eq (pv 2) pe_str (nomark _))
        (pss_cons (ps_set (i := 3) scStatementText.nd rfl (.inl rfl) (pe_call G_law_block_text (hr.mono (by omega)) (by rfl) L.g_law_block_text L.f_law_block_text.kp L.b_law_block_text .nil pass0 (pa_cons (pe_ix ix_tup (pv 0) pe_int (fun _ _ => rfl)) (pa_cons (pe_op op_add (pv 1) pe_int) pa_nil))))
        (pss_cons (ps_set (i := 4) scStatementText.nd rfl (.inl rfl) (pe_op op_catE (pe_op op_catE (pe_op op_catE (pe_op op_catE (pe_lit (cs "try") (by decide +kernel)) (pe_ix ix_list (pv 3) pe_int (fun _ _ => rfl))) (pe_lit (cs "catch(") (by decide +kernel))) (pe_ix ix_tup (pv 0) pe_int (fun _ _ => rfl))) (pe_lit [41] (by decide +kernel))))
        (pss_cons (ps_set (i := 5) scStatementText.nd rfl (.inl rfl) (pe_call G_law_block_text (hr.mono (by omega)) (by rfl) L.g_law_block_text L.f_law_block_text.kp L.b_law_block_text .nil pass0 (pa_cons (pe_ix ix_tup (pv 0) pe_int (fun _ _ => rfl)) (pa_cons (pe_op op_add (pv 1) (pe_callB call_lenE (by rfl) B.len PySem.boot_len (pa_cons (pv 4) pa_nil))) pa_nil))))
        (pss_one (ps_ret (pe_lst (pa_cons (pe_op op_catE (pv 4) (pe_ix ix_list (pv 5) pe_int (fun _ _ => rfl))) (pa_cons (pe_tup (pa_cons pe_str (pa_cons (pv 1) (pa_cons (pe_ix ix_list (pv 3) pe_int (fun _ _ => rfl)) (pa_cons (pe_op op_sub (pe_op op_sub (pe_op op_add (pv 1) (pe_callB call_lenE (by rfl) B.len PySem.boot_len (pa_cons (pv 4) pa_nil))) pe_int) (pe_callB call_lenE (by rfl) B.len PySem.boot_len (pa_cons (pe_ix ix_tup (pv 0) pe_int (fun _ _ => rfl)) pa_nil))) (pa_cons (pe_ix ix_tup (pv 0) pe_int (fun _ _ => rfl)) (pa_cons (pe_ix ix_list (pv 5) pe_int (fun _ _ => rfl)) pa_nil))))))) pa_nil))))))))
        pss_nil)
      (pss_one (ps_ret (pe_call G_law_compound_text (hr.mono (by omega)) (by rfl) L.g_law_compound_text L.f_law_compound_text.kp L.b_law_compound_text .nil pass0 (pa_cons (pv 0) (pa_cons (pv 1) pa_nil)))))))))), ?_⟩
  cases w with
  | @do_ _ e _ _ s1 e1 w1 =>
    obtain ⟨q0, x, rfl, hs, hx⟩ := tp_1 hv
    refine ⟨_, rfl, _, _, _, (.str "do"), rfl, rfl, hs, rfl, ?_⟩
    refine ⟨_, rfl, rfl, _, rfl, ite2 (fun _ => ?_) (fun e => absurd (by decide +kernel) e)⟩
    refine ⟨_, rfl, _, _, _, x, rfl, rfl, hs, rfl, _, rfl, _, _, rfl, rfl, _, _, _, _, _, _, _, rfl, hx, .inl w1, (by simp only [List.length_append, List.length_cons, List.length_nil, LIM_eq] at hl ⊢; omega), fun H1 y1 v1 m1 t1 h1 => ?_⟩
    replace hx := tp_same m1 hx
    replace hs := sqt_same m1 hs
    replace hv := tp_same m1 hv
    have sm2 := m1
    refine ⟨_, rfl, _, _, _, (.str (S s1)), rfl, rfl, (SqL.of t1), rfl, _, _, _, rfl, rfl, rfl, (by simp only [List.length_append, List.length_cons, List.length_nil, LIM_eq] at hl ⊢; omega), _, _, _, rfl, rfl, rfl, (by simp only [List.length_append, List.length_cons, List.length_nil, LIM_eq] at hl ⊢; omega), _, rfl, _, _, _, v1, rfl, rfl, (SqL.of t1), rfl, (by show 2 ≤ sizeLine; decide), fun y3 n3 => ?_⟩
    have tp3 := tp_new (K := K) (xs := [(.str "do"), v1]) n3 (.cons (.str _) (.cons h1 .nil))
    have ob3 := sqt_new (K := K) (xs := [(.str "do"), v1]) n3
    have m3 := same_upd (o := HO.tup [(.str "do"), v1]) n3
    replace hx := tp_same m3 hx
    replace hs := sqt_same m3 hs
    replace hv := tp_same m3 hv
    replace t1 := m3 _ _ t1
    replace h1 := tp_same m3 h1
    have sm4 := Same.tr sm2 m3
    refine ⟨(by show 2 ≤ sizeLine; decide), fun y5 n5 => ?_⟩
    exact q _ _ _ (Same.ly sm4 n5) upd_same (tp_same (same_upd n5) tp3)
  | @block _ _ _ _ _ _ w1 =>
    obtain ⟨fs, rfl⟩ := hB w1
    have hv0 := hv
    obtain ⟨q0, r, rfl, hs, ha⟩ := tp_head hv
    refine ⟨_, rfl, _, _, _, (.str "block"), rfl, rfl, hs, atI_zero, ?_⟩
    refine ⟨_, rfl, rfl, _, rfl, ite2 (fun e => absurd e (by decide +kernel)) (fun _ => ?_)⟩
    refine ⟨_, rfl, rfl, _, rfl, ite2 (fun _ => ?_) (fun e => absurd (by decide +kernel) e)⟩
    refine ⟨_, rfl, _, rfl, _, _, _, _, _, _, _, rfl, hv0, w1, hl, fun H2 y2 v2 m2 t2 h2 => ?_⟩
    exact q _ _ _ m2 t2 h2
  | @brk _ _  =>
    obtain ⟨q0, x, rfl, hs, hx⟩ := tp_1 hv
    refine ⟨_, rfl, _, _, _, (.str "break"), rfl, rfl, hs, rfl, ?_⟩
    refine ⟨_, rfl, rfl, _, rfl, ite2 (fun e => absurd e (by decide +kernel)) (fun _ => ?_)⟩
    refine ⟨_, rfl, rfl, _, rfl, ite2 (fun e => absurd e (by decide +kernel)) (fun _ => ?_)⟩
    refine ⟨_, rfl, (by show 2 ≤ sizeLine; decide), fun y6 n6 => ?_⟩
    have tp6 := tp_new (K := K) (xs := [(.str "break"), (.str "continue")]) n6 (.cons (.str _) (.cons (.str _) .nil))
    have ob6 := sqt_new (K := K) (xs := [(.str "break"), (.str "continue")]) n6
    have m6 := same_upd (o := HO.tup [(.str "break"), (.str "continue")]) n6
    replace hx := tp_same m6 hx
    replace hs := sqt_same m6 hs
    replace hv := tp_same m6 hv
    have sm7 := m6
    refine ⟨_, _, rfl, .inr ob6, rfl, rfl, _, rfl, ite2 (fun _ => ?_) (fun e => absurd (by decide +kernel) e)⟩
    refine ⟨_, rfl, (cs "break"), _, (cs "break;"), (congrArg V.str (by decide +kernel)), rfl, (by decide +kernel), (by decide +kernel), _, rfl, _, rfl, (by show 2 ≤ sizeLine; decide), fun y8 n8 => ?_⟩
    have tp8 := tp_new (K := K) (xs := [(.str "break"), (.int at_)]) n8 (.cons (.str _) (.cons (.int _) .nil))
    have ob8 := sqt_new (K := K) (xs := [(.str "break"), (.int at_)]) n8
    have m8 := same_upd (o := HO.tup [(.str "break"), (.int at_)]) n8
    replace hx := tp_same m8 hx
    replace hs := sqt_same m8 hs
    replace hv := tp_same m8 hv
    replace ob6 := sqt_same m8 ob6
    replace tp6 := tp_same m8 tp6
    have sm9 := Same.tr sm7 m8
    refine ⟨(by show 2 ≤ sizeLine; decide), fun y10 n10 => ?_⟩
    exact q _ _ _ (Same.ly sm9 n10) upd_same (tp_same (same_upd n10) tp8)
  | @cont _ _  =>
    obtain ⟨q0, x, rfl, hs, hx⟩ := tp_1 hv
    refine ⟨_, rfl, _, _, _, (.str "continue"), rfl, rfl, hs, rfl, ?_⟩
    refine ⟨_, rfl, rfl, _, rfl, ite2 (fun e => absurd e (by decide +kernel)) (fun _ => ?_)⟩
    refine ⟨_, rfl, rfl, _, rfl, ite2 (fun e => absurd e (by decide +kernel)) (fun _ => ?_)⟩
    refine ⟨_, rfl, (by show 2 ≤ sizeLine; decide), fun y11 n11 => ?_⟩
    have tp11 := tp_new (K := K) (xs := [(.str "break"), (.str "continue")]) n11 (.cons (.str _) (.cons (.str _) .nil))
    have ob11 := sqt_new (K := K) (xs := [(.str "break"), (.str "continue")]) n11
    have m11 := same_upd (o := HO.tup [(.str "break"), (.str "continue")]) n11
    replace hx := tp_same m11 hx
    replace hs := sqt_same m11 hs
    replace hv := tp_same m11 hv
    have sm12 := m11
    refine ⟨_, _, rfl, .inr ob11, rfl, rfl, _, rfl, ite2 (fun _ => ?_) (fun e => absurd (by decide +kernel) e)⟩
    refine ⟨_, rfl, (cs "continue"), _, (cs "continue;"), (congrArg V.str (by decide +kernel)), rfl, (by decide +kernel), (by decide +kernel), _, rfl, _, rfl, (by show 2 ≤ sizeLine; decide), fun y13 n13 => ?_⟩
    have tp13 := tp_new (K := K) (xs := [(.str "continue"), (.int at_)]) n13 (.cons (.str _) (.cons (.int _) .nil))
    have ob13 := sqt_new (K := K) (xs := [(.str "continue"), (.int at_)]) n13
    have m13 := same_upd (o := HO.tup [(.str "continue"), (.int at_)]) n13
    replace hx := tp_same m13 hx
    replace hs := sqt_same m13 hs
    replace hv := tp_same m13 hv
    replace ob11 := sqt_same m13 ob11
    replace tp11 := tp_same m13 tp11
    have sm14 := Same.tr sm12 m13
    refine ⟨(by show 2 ≤ sizeLine; decide), fun y15 n15 => ?_⟩
    exact q _ _ _ (Same.ly sm14 n15) upd_same (tp_same (same_upd n15) tp13)
  | @ret _ e _ _ s1 e1 w1 =>
    obtain ⟨q0, x, y, rfl, hs, hx, hy⟩ := tp_2 hv
    cases tp_int hx
    refine ⟨_, rfl, _, _, _, (.str "return"), rfl, rfl, hs, rfl, ?_⟩
    refine ⟨_, rfl, rfl, _, rfl, ite2 (fun e => absurd e (by decide +kernel)) (fun _ => ?_)⟩
    refine ⟨_, rfl, rfl, _, rfl, ite2 (fun e => absurd e (by decide +kernel)) (fun _ => ?_)⟩
    refine ⟨_, rfl, (by show 2 ≤ sizeLine; decide), fun y16 n16 => ?_⟩
    have tp16 := tp_new (K := K) (xs := [(.str "break"), (.str "continue")]) n16 (.cons (.str _) (.cons (.str _) .nil))
    have ob16 := sqt_new (K := K) (xs := [(.str "break"), (.str "continue")]) n16
    have m16 := same_upd (o := HO.tup [(.str "break"), (.str "continue")]) n16
    replace hy := tp_same m16 hy
    replace hs := sqt_same m16 hs
    replace hv := tp_same m16 hv
    have sm17 := m16
    refine ⟨_, _, rfl, .inr ob16, rfl, rfl, _, rfl, ite2 (fun e => absurd e (by decide +kernel)) (fun _ => ?_)⟩
    refine ⟨_, rfl, (by show 2 ≤ sizeLine; decide), fun y18 n18 => ?_⟩
    have tp18 := tp_new (K := K) (xs := [(.str "return"), (.str "throw")]) n18 (.cons (.str _) (.cons (.str _) .nil))
    have ob18 := sqt_new (K := K) (xs := [(.str "return"), (.str "throw")]) n18
    have m18 := same_upd (o := HO.tup [(.str "return"), (.str "throw")]) n18
    replace hy := tp_same m18 hy
    replace hs := sqt_same m18 hs
    replace hv := tp_same m18 hv
    replace ob16 := sqt_same m18 ob16
    replace tp16 := tp_same m18 tp16
    have sm19 := Same.tr sm17 m18
    refine ⟨_, _, rfl, .inr ob18, rfl, rfl, _, rfl, ite2 (fun _ => ?_) (fun e => absurd (by decide +kernel) e)⟩
    refine ⟨_, rfl, _, _, _, y, rfl, rfl, hs, rfl, _, rfl, _, rfl, (cs "return"), 6, (congrArg (fun z => [V.str z]) (by decide +kernel)), (by decide +kernel), (by decide +kernel), _, _, rfl, rfl, _, _, rfl, rfl, _, _, _, _, _, _, _, rfl, hy, .inr w1, (by simp only [List.length_append, List.length_cons, List.length_nil, LIM_eq] at hl ⊢; omega), fun H20 y20 v20 m20 t20 h20 => ?_⟩
    replace hy := tp_same m20 hy
    replace hs := sqt_same m20 hs
    replace hv := tp_same m20 hv
    replace ob16 := sqt_same m20 ob16
    replace tp16 := tp_same m20 tp16
    replace ob18 := sqt_same m20 ob18
    replace tp18 := tp_same m20 tp18
    have sm21 := Same.tr sm19 m20
    refine ⟨_, rfl, (cs "return"), _, _, (congrArg V.str (by decide +kernel)), rfl, rfl, (by simp only [List.length_append, List.length_cons, List.length_nil, LIM_eq] at hl ⊢; omega), _, rfl, _, _, _, (.str (S s1)), rfl, rfl, (SqL.of t20), rfl, _, _, _, rfl, rfl, rfl, (by simp only [List.length_append, List.length_cons, List.length_nil, LIM_eq] at hl ⊢; omega), _, _, _, rfl, rfl, rfl, (by simp only [List.length_append, List.length_cons, List.length_nil, LIM_eq] at hl ⊢; omega), _, rfl, _, rfl, _, rfl, _, _, _, v20, rfl, rfl, (SqL.of t20), rfl, (by show 3 ≤ sizeLine; decide), fun y22 n22 => ?_⟩
    have tp22 := tp_new (K := K) (xs := [(.str "return"), (.int at_), v20]) n22 (.cons (.str _) (.cons (.int _) (.cons h20 .nil)))
    have ob22 := sqt_new (K := K) (xs := [(.str "return"), (.int at_), v20]) n22
    have m22 := same_upd (o := HO.tup [(.str "return"), (.int at_), v20]) n22
    replace hy := tp_same m22 hy
    replace hs := sqt_same m22 hs
    replace hv := tp_same m22 hv
    replace ob16 := sqt_same m22 ob16
    replace tp16 := tp_same m22 tp16
    replace ob18 := sqt_same m22 ob18
    replace tp18 := tp_same m22 tp18
    replace t20 := m22 _ _ t20
    replace h20 := tp_same m22 h20
    have sm23 := Same.tr sm21 m22
    refine ⟨(by show 2 ≤ sizeLine; decide), fun y24 n24 => ?_⟩
    exact q _ _ _ (Same.ly sm23 n24) upd_same (tp_same (same_upd n24) tp22)
  | @throw _ e _ _ s1 e1 w1 =>
    obtain ⟨q0, x, y, rfl, hs, hx, hy⟩ := tp_2 hv
    cases tp_int hx
    refine ⟨_, rfl, _, _, _, (.str "throw"), rfl, rfl, hs, rfl, ?_⟩
    refine ⟨_, rfl, rfl, _, rfl, ite2 (fun e => absurd e (by decide +kernel)) (fun _ => ?_)⟩
    refine ⟨_, rfl, rfl, _, rfl, ite2 (fun e => absurd e (by decide +kernel)) (fun _ => ?_)⟩
    refine ⟨_, rfl, (by show 2 ≤ sizeLine; decide), fun y25 n25 => ?_⟩
    have tp25 := tp_new (K := K) (xs := [(.str "break"), (.str "continue")]) n25 (.cons (.str _) (.cons (.str _) .nil))
    have ob25 := sqt_new (K := K) (xs := [(.str "break"), (.str "continue")]) n25
    have m25 := same_upd (o := HO.tup [(.str "break"), (.str "continue")]) n25
    replace hy := tp_same m25 hy
    replace hs := sqt_same m25 hs
    replace hv := tp_same m25 hv
    have sm26 := m25
    refine ⟨_, _, rfl, .inr ob25, rfl, rfl, _, rfl, ite2 (fun e => absurd e (by decide +kernel)) (fun _ => ?_)⟩
    refine ⟨_, rfl, (by show 2 ≤ sizeLine; decide), fun y27 n27 => ?_⟩
    have tp27 := tp_new (K := K) (xs := [(.str "return"), (.str "throw")]) n27 (.cons (.str _) (.cons (.str _) .nil))
    have ob27 := sqt_new (K := K) (xs := [(.str "return"), (.str "throw")]) n27
    have m27 := same_upd (o := HO.tup [(.str "return"), (.str "throw")]) n27
    replace hy := tp_same m27 hy
    replace hs := sqt_same m27 hs
    replace hv := tp_same m27 hv
    replace ob25 := sqt_same m27 ob25
    replace tp25 := tp_same m27 tp25
    have sm28 := Same.tr sm26 m27
    refine ⟨_, _, rfl, .inr ob27, rfl, rfl, _, rfl, ite2 (fun _ => ?_) (fun e => absurd (by decide +kernel) e)⟩
    refine ⟨_, rfl, _, _, _, y, rfl, rfl, hs, rfl, _, rfl, _, rfl, (cs "throw"), 5, (congrArg (fun z => [V.str z]) (by decide +kernel)), (by decide +kernel), (by decide +kernel), _, _, rfl, rfl, _, _, rfl, rfl, _, _, _, _, _, _, _, rfl, hy, .inr w1, (by simp only [List.length_append, List.length_cons, List.length_nil, LIM_eq] at hl ⊢; omega), fun H29 y29 v29 m29 t29 h29 => ?_⟩
    replace hy := tp_same m29 hy
    replace hs := sqt_same m29 hs
    replace hv := tp_same m29 hv
    replace ob25 := sqt_same m29 ob25
    replace tp25 := tp_same m29 tp25
    replace ob27 := sqt_same m29 ob27
    replace tp27 := tp_same m29 tp27
    have sm30 := Same.tr sm28 m29
    refine ⟨_, rfl, (cs "throw"), _, _, (congrArg V.str (by decide +kernel)), rfl, rfl, (by simp only [List.length_append, List.length_cons, List.length_nil, LIM_eq] at hl ⊢; omega), _, rfl, _, _, _, (.str (S s1)), rfl, rfl, (SqL.of t29), rfl, _, _, _, rfl, rfl, rfl, (by simp only [List.length_append, List.length_cons, List.length_nil, LIM_eq] at hl ⊢; omega), _, _, _, rfl, rfl, rfl, (by simp only [List.length_append, List.length_cons, List.length_nil, LIM_eq] at hl ⊢; omega), _, rfl, _, rfl, _, rfl, _, _, _, v29, rfl, rfl, (SqL.of t29), rfl, (by show 3 ≤ sizeLine; decide), fun y31 n31 => ?_⟩
    have tp31 := tp_new (K := K) (xs := [(.str "throw"), (.int at_), v29]) n31 (.cons (.str _) (.cons (.int _) (.cons h29 .nil)))
    have ob31 := sqt_new (K := K) (xs := [(.str "throw"), (.int at_), v29]) n31
    have m31 := same_upd (o := HO.tup [(.str "throw"), (.int at_), v29]) n31
    replace hy := tp_same m31 hy
    replace hs := sqt_same m31 hs
    replace hv := tp_same m31 hv
    replace ob25 := sqt_same m31 ob25
    replace tp25 := tp_same m31 tp25
    replace ob27 := sqt_same m31 ob27
    replace tp27 := tp_same m31 tp27
    replace t29 := m31 _ _ t29
    replace h29 := tp_same m31 h29
    have sm32 := Same.tr sm30 m31
    refine ⟨(by show 2 ≤ sizeLine; decide), fun y33 n33 => ?_⟩
    exact q _ _ _ (Same.ly sm32 n33) upd_same (tp_same (same_upd n33) tp31)
  | @try_ _ d1 _ d2 _ _ s1 d1x s2 d2x w1 w2 =>
    obtain ⟨q0, x, y, z, u, t, rfl, hs, hx, hy, hz, hu, ht⟩ := tp_5 hv
    cases tp_int hx
    cases tp_int hz
    cases tp_str hu
    refine ⟨_, rfl, _, _, _, (.str "try"), rfl, rfl, hs, rfl, ?_⟩
    refine ⟨_, rfl, rfl, _, rfl, ite2 (fun e => absurd e (by decide +kernel)) (fun _ => ?_)⟩
    refine ⟨_, rfl, rfl, _, rfl, ite2 (fun e => absurd e (by decide +kernel)) (fun _ => ?_)⟩
    refine ⟨_, rfl, (by show 2 ≤ sizeLine; decide), fun y34 n34 => ?_⟩
    have tp34 := tp_new (K := K) (xs := [(.str "break"), (.str "continue")]) n34 (.cons (.str _) (.cons (.str _) .nil))
    have ob34 := sqt_new (K := K) (xs := [(.str "break"), (.str "continue")]) n34
    have m34 := same_upd (o := HO.tup [(.str "break"), (.str "continue")]) n34
    replace hy := tp_same m34 hy
    replace ht := tp_same m34 ht
    replace hs := sqt_same m34 hs
    replace hv := tp_same m34 hv
    have sm35 := m34
    refine ⟨_, _, rfl, .inr ob34, rfl, rfl, _, rfl, ite2 (fun e => absurd e (by decide +kernel)) (fun _ => ?_)⟩
    refine ⟨_, rfl, (by show 2 ≤ sizeLine; decide), fun y36 n36 => ?_⟩
    have tp36 := tp_new (K := K) (xs := [(.str "return"), (.str "throw")]) n36 (.cons (.str _) (.cons (.str _) .nil))
    have ob36 := sqt_new (K := K) (xs := [(.str "return"), (.str "throw")]) n36
    have m36 := same_upd (o := HO.tup [(.str "return"), (.str "throw")]) n36
    replace hy := tp_same m36 hy
    replace ht := tp_same m36 ht
    replace hs := sqt_same m36 hs
    replace hv := tp_same m36 hv
    replace ob34 := sqt_same m36 ob34
    replace tp34 := tp_same m36 tp34
    have sm37 := Same.tr sm35 m36
    refine ⟨_, _, rfl, .inr ob36, rfl, rfl, _, rfl, ite2 (fun e => absurd e (by decide +kernel)) (fun _ => ?_)⟩
    refine ⟨_, rfl, rfl, _, rfl, ite2 (fun _ => ?_) (fun e => absurd (by decide +kernel) e)⟩
    refine ⟨_, rfl, _, _, _, y, rfl, rfl, hs, rfl, _, rfl, _, _, rfl, rfl, _, _, _, _, _, _, _, rfl, hy, w1, (by simp only [List.length_append, List.length_cons, List.length_nil, LIM_eq] at hl ⊢; omega), fun H38 y38 v38 m38 t38 h38 => ?_⟩
    replace hy := tp_same m38 hy
    replace ht := tp_same m38 ht
    replace hs := sqt_same m38 hs
    replace hv := tp_same m38 hv
    replace ob34 := sqt_same m38 ob34
    replace tp34 := tp_same m38 tp34
    replace ob36 := sqt_same m38 ob36
    replace tp36 := tp_same m38 tp36
    have sm39 := Same.tr sm37 m38
    refine ⟨_, rfl, _, _, _, (.str (S s1)), rfl, rfl, (SqL.of t38), rfl, _, _, _, rfl, rfl, rfl, (by simp only [List.length_append, List.length_cons, List.length_nil, LIM_eq] at hl ⊢; omega), _, _, _, rfl, rfl, rfl, (by simp only [List.length_append, List.length_cons, List.length_nil, LIM_eq] at hl ⊢; omega), _, rfl, _, _, _, (.str "e"), rfl, rfl, hs, rfl, _, (cs "e"), _, rfl, (congrArg V.str (by decide +kernel)), rfl, (by simp only [List.length_append, List.length_cons, List.length_nil, LIM_eq] at hl ⊢; omega), _, _, _, rfl, rfl, rfl, (by simp only [List.length_append, List.length_cons, List.length_nil, LIM_eq] at hl ⊢; omega), ?_⟩
    refine ⟨_, rfl, _, _, _, t, rfl, rfl, hs, rfl, _, rfl, _, rfl, _, _, rfl, (by simp only [List.length_append, List.length_cons, List.length_nil, LIM_eq] at hl ⊢; omega), rfl, _, _, rfl, rfl, _, _, _, _, _, _, _, rfl, ht, w2, (by simp only [List.length_append, List.length_cons, List.length_nil, LIM_eq] at hl ⊢; omega), fun H40 y40 v40 m40 t40 h40 => ?_⟩
    replace hy := tp_same m40 hy
    replace ht := tp_same m40 ht
    replace hs := sqt_same m40 hs
    replace hv := tp_same m40 hv
    replace ob34 := sqt_same m40 ob34
    replace tp34 := tp_same m40 tp34
    replace ob36 := sqt_same m40 ob36
    replace tp36 := tp_same m40 tp36
    replace t38 := m40 _ _ t38
    replace h38 := tp_same m40 h38
    have sm41 := Same.tr sm39 m40
    refine ⟨_, rfl, _, rfl, _, _, _, (.str (S s2)), rfl, rfl, (SqL.of t40), rfl, _, _, _, rfl, rfl, rfl, (by simp only [List.length_append, List.length_cons, List.length_nil, LIM_eq] at hl ⊢; omega), _, rfl, _, rfl, _, _, _, v38, rfl, rfl, (SqL.of t38), rfl, _, rfl, _, rfl, _, _, rfl, (by simp only [List.length_append, List.length_cons, List.length_nil, LIM_eq] at hl ⊢; omega), rfl, _, _, rfl, rfl, _, _, rfl, rfl, _, rfl, _, _, _, (.str "e"), rfl, rfl, hs, rfl, [101], 1, (congrArg (fun z => [V.str z]) (by decide +kernel)), (by decide +kernel), (by decide +kernel), _, _, rfl, rfl, _, rfl, _, _, _, (.str "e"), rfl, rfl, hs, rfl, _, rfl, _, _, _, v40, rfl, rfl, (SqL.of t40), rfl, (by show 6 ≤ sizeLine; decide), fun y42 n42 => ?_⟩
    have tp42 := tp_new (K := K) (xs := [(.str "try"), (.int at_), v38, (.int (((at_ + (len (((((cs "try") ++ s1) ++ (cs "catch(")) ++ (cs "e")) ++ [41]))) - 1) - 1)), (.str "e"), v40]) n42 (.cons (.str _) (.cons (.int _) (.cons h38 (.cons (.int _) (.cons (.str _) (.cons h40 .nil))))))
    have ob42 := sqt_new (K := K) (xs := [(.str "try"), (.int at_), v38, (.int (((at_ + (len (((((cs "try") ++ s1) ++ (cs "catch(")) ++ (cs "e")) ++ [41]))) - 1) - 1)), (.str "e"), v40]) n42
    have m42 := same_upd (o := HO.tup [(.str "try"), (.int at_), v38, (.int (((at_ + (len (((((cs "try") ++ s1) ++ (cs "catch(")) ++ (cs "e")) ++ [41]))) - 1) - 1)), (.str "e"), v40]) n42
    replace hy := tp_same m42 hy
    replace ht := tp_same m42 ht
    replace hs := sqt_same m42 hs
    replace hv := tp_same m42 hv
    replace ob34 := sqt_same m42 ob34
    replace tp34 := tp_same m42 tp34
    replace ob36 := sqt_same m42 ob36
    replace tp36 := tp_same m42 tp36
    replace t38 := m42 _ _ t38
    replace h38 := tp_same m42 h38
    replace t40 := m42 _ _ t40
    replace h40 := tp_same m42 h40
    have sm43 := Same.tr sm41 m42
    refine ⟨(by show 2 ≤ sizeLine; decide), fun y44 n44 => ?_⟩
    exact q _ _ _ (Same.ly sm43 n44) upd_same (tp_same (same_upd n44) tp42)
  | @ret0 _ _  =>
    obtain ⟨q0, x, y, rfl, hs, hx, hy⟩ := tp_2 hv
    cases tp_int hx
    refine ⟨_, rfl, _, _, _, (.str "return"), rfl, rfl, hs, rfl, ?_⟩
    refine ⟨_, rfl, rfl, _, rfl, ite2 (fun e => absurd e (by decide +kernel)) (fun _ => ?_)⟩
    refine ⟨_, rfl, rfl, _, rfl, ite2 (fun e => absurd e (by decide +kernel)) (fun _ => ?_)⟩
    refine ⟨_, rfl, (by show 2 ≤ sizeLine; decide), fun y45 n45 => ?_⟩
    have tp45 := tp_new (K := K) (xs := [(.str "break"), (.str "continue")]) n45 (.cons (.str _) (.cons (.str _) .nil))
    have ob45 := sqt_new (K := K) (xs := [(.str "break"), (.str "continue")]) n45
    have m45 := same_upd (o := HO.tup [(.str "break"), (.str "continue")]) n45
    replace hs := sqt_same m45 hs
    replace hv := tp_same m45 hv
    replace hy := tp_same m45 hy
    have sm46 := m45
    refine ⟨_, _, rfl, .inr ob45, rfl, rfl, _, rfl, ite2 (fun e => absurd e (by decide +kernel)) (fun _ => ?_)⟩
    refine ⟨_, rfl, (by show 2 ≤ sizeLine; decide), fun y47 n47 => ?_⟩
    have tp47 := tp_new (K := K) (xs := [(.str "return"), (.str "throw")]) n47 (.cons (.str _) (.cons (.str _) .nil))
    have ob47 := sqt_new (K := K) (xs := [(.str "return"), (.str "throw")]) n47
    have m47 := same_upd (o := HO.tup [(.str "return"), (.str "throw")]) n47
    replace hs := sqt_same m47 hs
    replace hv := tp_same m47 hv
    replace hy := tp_same m47 hy
    replace ob45 := sqt_same m47 ob45
    replace tp45 := tp_same m47 tp45
    have sm48 := Same.tr sm46 m47
    refine ⟨_, _, rfl, .inr ob47, rfl, rfl, _, rfl, ite2 (fun _ => ?_) (fun e => absurd (by decide +kernel) e)⟩
    refine ⟨_, rfl, _, _, _, y, rfl, rfl, hs, rfl, _, rfl, _, rfl, (cs "return"), 6, (congrArg (fun z => [V.str z]) (by decide +kernel)), (by decide +kernel), (by decide +kernel), _, _, rfl, rfl, _, _, rfl, rfl, _, _, 0, 0, _, _, _, rfl, hy, .inl h0, (by decide +kernel), fun H49 y49 v49 m49 t49 h49 => ?_⟩
    replace hs := sqt_same m49 hs
    replace hv := tp_same m49 hv
    replace hy := tp_same m49 hy
    replace ob45 := sqt_same m49 ob45
    replace tp45 := tp_same m49 tp45
    replace ob47 := sqt_same m49 ob47
    replace tp47 := tp_same m49 tp47
    have sm50 := Same.tr sm48 m49
    refine ⟨_, rfl, (cs "return"), _, (cs "return "), (congrArg V.str (by decide +kernel)), rfl, (by decide +kernel), (by decide +kernel), _, rfl, _, _, _, (.str (S (cs "null"))), rfl, rfl, (SqL.of t49), rfl, _, _, (cs "return null"), rfl, rfl, (by decide +kernel), (by decide +kernel), _, _, (cs "return null;"), rfl, rfl, (by decide +kernel), (by decide +kernel), _, rfl, _, rfl, _, rfl, _, _, _, v49, rfl, rfl, (SqL.of t49), rfl, (by show 3 ≤ sizeLine; decide), fun y51 n51 => ?_⟩
    have tp51 := tp_new (K := K) (xs := [(.str "return"), (.int at_), v49]) n51 (.cons (.str _) (.cons (.int _) (.cons h49 .nil)))
    have ob51 := sqt_new (K := K) (xs := [(.str "return"), (.int at_), v49]) n51
    have m51 := same_upd (o := HO.tup [(.str "return"), (.int at_), v49]) n51
    replace hs := sqt_same m51 hs
    replace hv := tp_same m51 hv
    replace hy := tp_same m51 hy
    replace ob45 := sqt_same m51 ob45
    replace tp45 := tp_same m51 tp45
    replace ob47 := sqt_same m51 ob47
    replace tp47 := tp_same m51 tp47
    replace t49 := m51 _ _ t49
    replace h49 := tp_same m51 h49
    have sm52 := Same.tr sm50 m51
    refine ⟨(by show 2 ≤ sizeLine; decide), fun y53 n53 => ?_⟩
    exact q _ _ _ (Same.ly sm52 n53) upd_same (tp_same (same_upd n53) tp51)
  | @while_ _ e _ st _ _ s1 e1 s2 st1 w1 w2 =>
    obtain ⟨q0, x, y, z, rfl, hs, hx, hy, hz⟩ := tp_3 hv
    refine ⟨_, rfl, _, _, _, (.str "while"), rfl, rfl, hs, rfl, ?_⟩
    refine ⟨_, rfl, rfl, _, rfl, ite2 (fun e => absurd e (by decide +kernel)) (fun _ => ?_)⟩
    refine ⟨_, rfl, rfl, _, rfl, ite2 (fun e => absurd e (by decide +kernel)) (fun _ => ?_)⟩
    refine ⟨_, rfl, (by show 2 ≤ sizeLine; decide), fun y54 n54 => ?_⟩
    have tp54 := tp_new (K := K) (xs := [(.str "break"), (.str "continue")]) n54 (.cons (.str _) (.cons (.str _) .nil))
    have ob54 := sqt_new (K := K) (xs := [(.str "break"), (.str "continue")]) n54
    have m54 := same_upd (o := HO.tup [(.str "break"), (.str "continue")]) n54
    replace hs := sqt_same m54 hs
    replace hv := tp_same m54 hv
    have sm55 := m54
    refine ⟨_, _, rfl, .inr ob54, rfl, rfl, _, rfl, ite2 (fun e => absurd e (by decide +kernel)) (fun _ => ?_)⟩
    refine ⟨_, rfl, (by show 2 ≤ sizeLine; decide), fun y56 n56 => ?_⟩
    have tp56 := tp_new (K := K) (xs := [(.str "return"), (.str "throw")]) n56 (.cons (.str _) (.cons (.str _) .nil))
    have ob56 := sqt_new (K := K) (xs := [(.str "return"), (.str "throw")]) n56
    have m56 := same_upd (o := HO.tup [(.str "return"), (.str "throw")]) n56
    replace hs := sqt_same m56 hs
    replace hv := tp_same m56 hv
    replace ob54 := sqt_same m56 ob54
    replace tp54 := tp_same m56 tp54
    have sm57 := Same.tr sm55 m56
    refine ⟨_, _, rfl, .inr ob56, rfl, rfl, _, rfl, ite2 (fun e => absurd e (by decide +kernel)) (fun _ => ?_)⟩
    refine ⟨_, rfl, rfl, _, rfl, ite2 (fun e => absurd e (by decide +kernel)) (fun _ => ?_)⟩
    refine ⟨_, rfl, _, rfl, _, _, _, _, _, _, _, rfl, hv, ⟨.while_ w1 w2, (show cpK "while" = true by decide +kernel)⟩, (by simp only [List.length_append, List.length_cons, List.length_nil, LIM_eq] at hl ⊢; omega), fun H58 y58 v58 m58 t58 h58 => ?_⟩
    replace hs := sqt_same m58 hs
    replace hv := tp_same m58 hv
    replace ob54 := sqt_same m58 ob54
    replace tp54 := tp_same m58 tp54
    replace ob56 := sqt_same m58 ob56
    replace tp56 := tp_same m58 tp56
    have sm59 := Same.tr sm57 m58
    exact q _ _ _ sm59 t58 h58
  | @for_ _ e _ st _ _ s1 e1 s2 st1 w1 w2 =>
    obtain ⟨q0, x, y, z, u, t, rfl, hs, hx, hy, hz, hu, ht⟩ := tp_5 hv
    refine ⟨_, rfl, _, _, _, (.str "for"), rfl, rfl, hs, rfl, ?_⟩
    refine ⟨_, rfl, rfl, _, rfl, ite2 (fun e => absurd e (by decide +kernel)) (fun _ => ?_)⟩
    refine ⟨_, rfl, rfl, _, rfl, ite2 (fun e => absurd e (by decide +kernel)) (fun _ => ?_)⟩
    refine ⟨_, rfl, (by show 2 ≤ sizeLine; decide), fun y60 n60 => ?_⟩
    have tp60 := tp_new (K := K) (xs := [(.str "break"), (.str "continue")]) n60 (.cons (.str _) (.cons (.str _) .nil))
    have ob60 := sqt_new (K := K) (xs := [(.str "break"), (.str "continue")]) n60
    have m60 := same_upd (o := HO.tup [(.str "break"), (.str "continue")]) n60
    replace hs := sqt_same m60 hs
    replace hv := tp_same m60 hv
    have sm61 := m60
    refine ⟨_, _, rfl, .inr ob60, rfl, rfl, _, rfl, ite2 (fun e => absurd e (by decide +kernel)) (fun _ => ?_)⟩
    refine ⟨_, rfl, (by show 2 ≤ sizeLine; decide), fun y62 n62 => ?_⟩
    have tp62 := tp_new (K := K) (xs := [(.str "return"), (.str "throw")]) n62 (.cons (.str _) (.cons (.str _) .nil))
    have ob62 := sqt_new (K := K) (xs := [(.str "return"), (.str "throw")]) n62
    have m62 := same_upd (o := HO.tup [(.str "return"), (.str "throw")]) n62
    replace hs := sqt_same m62 hs
    replace hv := tp_same m62 hv
    replace ob60 := sqt_same m62 ob60
    replace tp60 := tp_same m62 tp60
    have sm63 := Same.tr sm61 m62
    refine ⟨_, _, rfl, .inr ob62, rfl, rfl, _, rfl, ite2 (fun e => absurd e (by decide +kernel)) (fun _ => ?_)⟩
    refine ⟨_, rfl, rfl, _, rfl, ite2 (fun e => absurd e (by decide +kernel)) (fun _ => ?_)⟩
    refine ⟨_, rfl, _, rfl, _, _, _, _, _, _, _, rfl, hv, ⟨.for_ w1 w2, (show cpK "for" = true by decide +kernel)⟩, (by simp only [List.length_append, List.length_cons, List.length_nil, LIM_eq] at hl ⊢; omega), fun H64 y64 v64 m64 t64 h64 => ?_⟩
    replace hs := sqt_same m64 hs
    replace hv := tp_same m64 hv
    replace ob60 := sqt_same m64 ob60
    replace tp60 := tp_same m64 tp60
    replace ob62 := sqt_same m64 ob62
    replace tp62 := tp_same m64 tp62
    have sm65 := Same.tr sm63 m64
    exact q _ _ _ sm65 t64 h64
  | @if1 _ e _ st _ _ s1 e1 s2 st1 w1 w2 =>
    obtain ⟨q0, x, y, z, u, rfl, hs, hx, hy, hz, hu⟩ := tp_4 hv
    refine ⟨_, rfl, _, _, _, (.str "if"), rfl, rfl, hs, rfl, ?_⟩
    refine ⟨_, rfl, rfl, _, rfl, ite2 (fun e => absurd e (by decide +kernel)) (fun _ => ?_)⟩
    refine ⟨_, rfl, rfl, _, rfl, ite2 (fun e => absurd e (by decide +kernel)) (fun _ => ?_)⟩
    refine ⟨_, rfl, (by show 2 ≤ sizeLine; decide), fun y66 n66 => ?_⟩
    have tp66 := tp_new (K := K) (xs := [(.str "break"), (.str "continue")]) n66 (.cons (.str _) (.cons (.str _) .nil))
    have ob66 := sqt_new (K := K) (xs := [(.str "break"), (.str "continue")]) n66
    have m66 := same_upd (o := HO.tup [(.str "break"), (.str "continue")]) n66
    replace hs := sqt_same m66 hs
    replace hv := tp_same m66 hv
    have sm67 := m66
    refine ⟨_, _, rfl, .inr ob66, rfl, rfl, _, rfl, ite2 (fun e => absurd e (by decide +kernel)) (fun _ => ?_)⟩
    refine ⟨_, rfl, (by show 2 ≤ sizeLine; decide), fun y68 n68 => ?_⟩
    have tp68 := tp_new (K := K) (xs := [(.str "return"), (.str "throw")]) n68 (.cons (.str _) (.cons (.str _) .nil))
    have ob68 := sqt_new (K := K) (xs := [(.str "return"), (.str "throw")]) n68
    have m68 := same_upd (o := HO.tup [(.str "return"), (.str "throw")]) n68
    replace hs := sqt_same m68 hs
    replace hv := tp_same m68 hv
    replace ob66 := sqt_same m68 ob66
    replace tp66 := tp_same m68 tp66
    have sm69 := Same.tr sm67 m68
    refine ⟨_, _, rfl, .inr ob68, rfl, rfl, _, rfl, ite2 (fun e => absurd e (by decide +kernel)) (fun _ => ?_)⟩
    refine ⟨_, rfl, rfl, _, rfl, ite2 (fun e => absurd e (by decide +kernel)) (fun _ => ?_)⟩
    refine ⟨_, rfl, _, rfl, _, _, _, _, _, _, _, rfl, hv, ⟨.if1 w1 w2, (show cpK "if" = true by decide +kernel)⟩, (by simp only [List.length_append, List.length_cons, List.length_nil, LIM_eq] at hl ⊢; omega), fun H70 y70 v70 m70 t70 h70 => ?_⟩
    replace hs := sqt_same m70 hs
    replace hv := tp_same m70 hv
    replace ob66 := sqt_same m70 ob66
    replace tp66 := tp_same m70 tp66
    replace ob68 := sqt_same m70 ob68
    replace tp68 := tp_same m70 tp68
    have sm71 := Same.tr sm69 m70
    exact q _ _ _ sm71 t70 h70
  | @if2 _ e _ st _ o _ _ s1 e1 s2 st1 s3 o1 w1 w2 ho w3 =>
    obtain ⟨q0, x, y, z, u, rfl, hs, hx, hy, hz, hu⟩ := tp_4 hv
    refine ⟨_, rfl, _, _, _, (.str "if"), rfl, rfl, hs, rfl, ?_⟩
    refine ⟨_, rfl, rfl, _, rfl, ite2 (fun e => absurd e (by decide +kernel)) (fun _ => ?_)⟩
    refine ⟨_, rfl, rfl, _, rfl, ite2 (fun e => absurd e (by decide +kernel)) (fun _ => ?_)⟩
    refine ⟨_, rfl, (by show 2 ≤ sizeLine; decide), fun y72 n72 => ?_⟩
    have tp72 := tp_new (K := K) (xs := [(.str "break"), (.str "continue")]) n72 (.cons (.str _) (.cons (.str _) .nil))
    have ob72 := sqt_new (K := K) (xs := [(.str "break"), (.str "continue")]) n72
    have m72 := same_upd (o := HO.tup [(.str "break"), (.str "continue")]) n72
    replace hs := sqt_same m72 hs
    replace hv := tp_same m72 hv
    have sm73 := m72
    refine ⟨_, _, rfl, .inr ob72, rfl, rfl, _, rfl, ite2 (fun e => absurd e (by decide +kernel)) (fun _ => ?_)⟩
    refine ⟨_, rfl, (by show 2 ≤ sizeLine; decide), fun y74 n74 => ?_⟩
    have tp74 := tp_new (K := K) (xs := [(.str "return"), (.str "throw")]) n74 (.cons (.str _) (.cons (.str _) .nil))
    have ob74 := sqt_new (K := K) (xs := [(.str "return"), (.str "throw")]) n74
    have m74 := same_upd (o := HO.tup [(.str "return"), (.str "throw")]) n74
    replace hs := sqt_same m74 hs
    replace hv := tp_same m74 hv
    replace ob72 := sqt_same m74 ob72
    replace tp72 := tp_same m74 tp72
    have sm75 := Same.tr sm73 m74
    refine ⟨_, _, rfl, .inr ob74, rfl, rfl, _, rfl, ite2 (fun e => absurd e (by decide +kernel)) (fun _ => ?_)⟩
    refine ⟨_, rfl, rfl, _, rfl, ite2 (fun e => absurd e (by decide +kernel)) (fun _ => ?_)⟩
    refine ⟨_, rfl, _, rfl, _, _, _, _, _, _, _, rfl, hv, ⟨.if2 w1 w2 ho w3, (show cpK "if" = true by decide +kernel)⟩, (by simp only [List.length_append, List.length_cons, List.length_nil, LIM_eq] at hl ⊢; omega), fun H76 y76 v76 m76 t76 h76 => ?_⟩
    replace hs := sqt_same m76 hs
    replace hv := tp_same m76 hv
    replace ob72 := sqt_same m76 ob72
    replace tp72 := tp_same m76 tp72
    replace ob74 := sqt_same m76 ob74
    replace tp74 := tp_same m76 tp74
    have sm77 := Same.tr sm75 m76
    exact q _ _ _ sm77 t76 h76
/-! ### _law_compound_text -/
theorem scCompoundText : FnScope ["term", "at", "kind", "head", "worth", "text", "told", "other"] ["term", "at"] (defScope sCompoundText) := ⟨rfl, rfl, rfl, by decide +kernel, rfl, by decide +kernel, by decide +kernel⟩
theorem ok_compound_text {R0 R St Bk : Rl} {k : Nat} (L : TW K mg a d) (B : Bl mg) (hB : ∀ {a d b at_ s d'}, Bk a d b at_ s d' → ∃ fs, d = tup "block" fs) (hN : ∀ {a d b at_ s d'}, St a d b at_ s d' → d ≠ .none)
    (G_law_write : FnOk P w K mg base CX0 k (a 2) (d 2) ["term", "at"] (spW K R)) (G_law_statement_text : FnOk P w K mg base CX0 k (a 11) (d 11) ["term", "at"] (spW K St)) :
    FnOk P w K mg base CX0 (k + 1) (a 12) (d 12) ["term", "at"] (spW K (CpR R0 R St Bk)) := by
  refine L.f_law_compound_text.ok scCompoundText spW_len (fun cdv A outer s H vs Q E hr h => ?_)
  obtain ⟨v, d0, a0, b0, at_, s0, d0', rfl, hv, w, hl, q⟩ := h
  refine ⟨_, pss_cons (ps_set (i := 2) scCompoundText.nd rfl (.inl rfl) (pe_ix ix_tup (pv 0) pe_int (fun _ _ => rfl)))
      (pss_cons (ps_set (i := 3) scCompoundText.nd rfl (.inl rfl) (pe_op op_catE (pv 2) (pe_lit [40] (by decide +kernel))))
      (pss_cons (ps_if (pt_cmpR op_eq (pv 2) pe_str (nomark _))
        (pss_one (ps_set (i := 3) scCompoundText.nd rfl (.inl rfl) (pe_op op_catE (pe_op op_catE (pe_lit (cs "for(") (by decide +kernel)) (pe_ix ix_tup (pv 0) pe_int (fun _ _ => rfl))) (pe_lit (cs " in ") (by decide +kernel)))))
        pss_nil)
      (pss_cons (ps_set (i := 4) scCompoundText.nd rfl (.inl rfl) (pe_call G_law_write (hr.mono (by omega)) (by rfl) L.g_law_write L.f_law_write.kp L.b_law_write .nil pass0 (pa_cons (pe_ix ix_tup (pv 0) (pe_ix ix_list (pe_lst (pa_cons pe_int (pa_cons pe_int pa_nil))) (pe_callTy call_int1 (by rfl) B.int (by decide +kernel) (pa_cons (pe_cmpR op_eq (pv 2) pe_str (nomark _)) pa_nil)) (fun _ _ => rfl)) (fun _ _ => rfl)) (pa_cons (pe_op op_add (pv 1) (pe_callB call_lenE (by rfl) B.len PySem.boot_len (pa_cons (pv 3) pa_nil))) pa_nil))))
      (pss_cons (ps_set (i := 5) scCompoundText.nd rfl (.inl rfl) (pe_op op_catE (pe_op op_catE (pv 3) (pe_ix ix_list (pv 4) pe_int (fun _ _ => rfl))) (pe_lit [41] (by decide +kernel))))
      (pss_cons (ps_if (pt_cmpR op_eq (pv 2) pe_str (nomark _))
        (pss_cons (ps_set (i := 6) scCompoundText.nd rfl (.inl rfl) (pe_call G_law_statement_text (hr.mono (by omega)) (by rfl) L.g_law_statement_text L.f_law_statement_text.kp L.b_law_statement_text .nil pass0 (pa_cons (pe_ix ix_tup (pv 0) pe_int (fun _ _ => rfl)) (pa_cons (pe_op op_add (pv 1) (pe_callB call_lenE (by rfl) B.len PySem.boot_len (pa_cons (pv 5) pa_nil))) pa_nil))))
        (pss_one (ps_ret (pe_lst (pa_cons (pe_op op_catE (pv 5) (pe_ix ix_list (pv 6) pe_int (fun _ _ => rfl))) (pa_cons (pe_tup (pa_cons pe_str (pa_cons (pv 1) (pa_cons (pe_ix ix_list (pv 4) pe_int (fun _ _ => rfl)) (pa_cons (pe_ix ix_list (pv 6) pe_int (fun _ _ => rfl)) pa_nil))))) pa_nil))))))
        pss_nil)
      (pss_cons (ps_if (pt_cmpR op_eq (pv 2) pe_str (nomark _))
        (pss_cons (ps_set (i := 6) scCompoundText.nd rfl (.inl rfl) (pe_call G_law_statement_text (hr.mono (by omega)) (by rfl) L.g_law_statement_text L.f_law_statement_text.kp L.b_law_statement_text .nil pass0 (pa_cons (pe_ix ix_tup (pv 0) pe_int (fun _ _ => rfl)) (pa_cons (pe_op op_add (pv 1) (pe_callB call_lenE (by rfl) B.len PySem.boot_len (pa_cons (pv 5) pa_nil))) pa_nil))))
        (pss_one (ps_ret (pe_lst (pa_cons (pe_op op_catE (pv 5) (pe_ix ix_list (pv 6) pe_int (fun _ _ => rfl))) (pa_cons (pe_tup (pa_cons pe_str (pa_cons (pv 1) (pa_cons (pe_op op_add (pv 1) pe_int) (pa_cons (pe_ix ix_tup (pv 0) pe_int (fun _ _ => rfl)) (pa_cons (pe_ix ix_list (pv 4) pe_int (fun _ _ => rfl)) (pa_cons (pe_ix ix_list (pv 6) pe_int (fun _ _ => rfl)) pa_nil))))))) pa_nil))))))
        pss_nil)
      (pss_cons (ps_set (i := 6) scCompoundText.nd rfl (.inl rfl) (pe_call G_law_statement_text (hr.mono (by omega)) (by rfl) L.g_law_statement_text L.f_law_statement_text.kp L.b_law_statement_text .nil pass0 (pa_cons (pe_ix ix_tup (pv 0) pe_int (fun _ _ => rfl)) (pa_cons (pe_op op_add (pv 1) (pe_callB call_lenE (by rfl) B.len PySem.boot_len (pa_cons (pv 5) pa_nil))) pa_nil))))
      (pss_cons (ps_set (i := 5) scCompoundText.nd rfl (.inl rfl) (pe_op op_catE (pe_op op_catE (pv 5) (pe_ix ix_list (pv 6) pe_int (fun _ _ => rfl))) (pe_lit (cs " else ") (by decide +kernel))))
      (pss_cons (ps_if (pt_cmpR op_isN (pe_ix ix_tup (pv 0) pe_int (fun _ _ => rfl)) pe_non (nomark _))
        (pss_one (ps_ret (pe_lst (pa_cons (pe_op op_catE (pv 5) (pe_lit (cs "{}") (by decide +kernel))) (pa_cons (pe_tup (pa_cons pe_str (pa_cons (pv 1) (pa_cons (pe_ix ix_list (pv 4) pe_int (fun _ _ => rfl)) (pa_cons (pe_ix ix_list (pv 6) pe_int (fun _ _ => rfl)) (pa_cons pe_non pa_nil)))))) pa_nil)))))
        pss_nil)
      (pss_cons (ps_set (i := 7) scCompoundText.nd rfl (.inl rfl) (pe_call G_law_statement_text (hr.mono (by omega)) (by rfl) L.g_law_statement_text L.f_law_statement_text.kp L.b_law_statement_text .nil pass0 (pa_cons (pe_ix ix_tup (pv 0) pe_int (fun _ _ => rfl)) (pa_cons (pe_op op_add (pv 1) (pe_callB call_lenE (by rfl) B.len PySem.boot_len (pa_cons (pv 5) pa_nil))) pa_nil))))
      (pss_one (ps_ret (pe_lst (pa_cons (pe_op op_catE (pv 5) (pe_ix ix_list (pv 7) pe_int (fun _ _ => rfl))) (pa_cons (pe_tup (pa_cons pe_str (pa_cons (pv 1) (pa_cons (pe_ix ix_list (pv 4) pe_int (fun _ _ => rfl)) (pa_cons (pe_ix ix_list (pv 6) pe_int (fun _ _ => rfl)) (pa_cons (pe_ix ix_list (pv 7) pe_int (fun _ _ => rfl)) pa_nil)))))) pa_nil))))))))))))))), ?_⟩
  obtain ⟨w, hk⟩ := w
  cases w with
  | do_ => exact absurd hk (show ¬ (cpK "do" = true) by decide +kernel)
  | brk => exact absurd hk (show ¬ (cpK "break" = true) by decide +kernel)
  | cont => exact absurd hk (show ¬ (cpK "continue" = true) by decide +kernel)
  | ret0 => exact absurd hk (show ¬ (cpK "return" = true) by decide +kernel)
  | ret => exact absurd hk (show ¬ (cpK "return" = true) by decide +kernel)
  | throw => exact absurd hk (show ¬ (cpK "throw" = true) by decide +kernel)
  | try_ => exact absurd hk (show ¬ (cpK "try" = true) by decide +kernel)
  | block w1 =>
    obtain ⟨fs, rfl⟩ := hB w1
    exact absurd hk (show ¬ (cpK "block" = true) by decide +kernel)
  | @while_ _ e _ st _ _ s1 e1 s2 st1 w1 w2 =>
    obtain ⟨q0, x, y, z, rfl, hs, hx, hy, hz⟩ := tp_3 hv
    cases tp_int hx
    refine ⟨_, rfl, _, _, _, (.str "while"), rfl, rfl, hs, rfl, ?_⟩
    refine ⟨_, rfl, (cs "while"), _, (cs "while("), (congrArg V.str (by decide +kernel)), rfl, (by decide +kernel), (by decide +kernel), ?_⟩
    refine ⟨_, rfl, rfl, _, rfl, ite2 (fun e => absurd e (by decide +kernel)) (fun _ => ?_)⟩
    refine ⟨_, rfl, (by show 2 ≤ sizeLine; decide), fun y78 n78 => ?_⟩
    have ob78 := lst_new (xs := [(.int 2), (.int 4)]) n78
    have m78 := same_upd (o := HO.lst [(.int 2), (.int 4)]) n78
    replace hy := tp_same m78 hy
    replace hz := tp_same m78 hz
    replace hs := sqt_same m78 hs
    replace hv := tp_same m78 hv
    have sm79 := m78
    refine ⟨_, rfl, rfl, .inr ⟨_, rfl, _, _, _, (.int 2), rfl, rfl, (SqL.of ob78), (by decide +kernel), _, _, _, y, rfl, rfl, hs, rfl, _, rfl, _, rfl, (cs "while("), 6, rfl, (by decide +kernel), (by decide +kernel), _, _, rfl, rfl, _, _, _, _, _, _, _, rfl, hy, w1, (by simp only [List.length_append, List.length_cons, List.length_nil, LIM_eq] at hl ⊢; omega), fun H80 y80 v80 m80 t80 h80 => ?_⟩⟩
    replace hy := tp_same m80 hy
    replace hz := tp_same m80 hz
    replace hs := sqt_same m80 hs
    replace hv := tp_same m80 hv
    replace ob78 := m80 _ _ ob78
    have sm81 := Same.tr sm79 m80
    refine ⟨_, rfl, _, rfl, _, _, _, (.str (S s1)), rfl, rfl, (SqL.of t80), rfl, _, _, _, rfl, rfl, rfl, (by simp only [List.length_append, List.length_cons, List.length_nil, LIM_eq] at hl ⊢; omega), _, _, _, rfl, rfl, rfl, (by simp only [List.length_append, List.length_cons, List.length_nil, LIM_eq] at hl ⊢; omega), ?_⟩
    refine ⟨_, rfl, rfl, _, rfl, ite2 (fun _ => ?_) (fun e => absurd (by decide +kernel) e)⟩
    refine ⟨_, rfl, _, _, _, z, rfl, rfl, hs, rfl, _, rfl, _, rfl, _, _, rfl, (by simp only [List.length_append, List.length_cons, List.length_nil, LIM_eq] at hl ⊢; omega), rfl, _, _, rfl, rfl, _, _, _, _, _, _, _, rfl, hz, w2, (by simp only [List.length_append, List.length_cons, List.length_nil, LIM_eq] at hl ⊢; omega), fun H82 y82 v82 m82 t82 h82 => ?_⟩
    replace hy := tp_same m82 hy
    replace hz := tp_same m82 hz
    replace hs := sqt_same m82 hs
    replace hv := tp_same m82 hv
    replace ob78 := m82 _ _ ob78
    replace t80 := m82 _ _ t80
    replace h80 := tp_same m82 h80
    have sm83 := Same.tr sm81 m82
    refine ⟨_, rfl, _, rfl, _, _, _, (.str (S s2)), rfl, rfl, (SqL.of t82), rfl, _, _, _, rfl, rfl, rfl, (by simp only [List.length_append, List.length_cons, List.length_nil, LIM_eq] at hl ⊢; omega), _, rfl, _, rfl, _, _, _, v80, rfl, rfl, (SqL.of t80), rfl, _, rfl, _, _, _, v82, rfl, rfl, (SqL.of t82), rfl, (by show 4 ≤ sizeLine; decide), fun y84 n84 => ?_⟩
    have tp84 := tp_new (K := K) (xs := [(.str "while"), (.int at_), v80, v82]) n84 (.cons (.str _) (.cons (.int _) (.cons h80 (.cons h82 .nil))))
    have ob84 := sqt_new (K := K) (xs := [(.str "while"), (.int at_), v80, v82]) n84
    have m84 := same_upd (o := HO.tup [(.str "while"), (.int at_), v80, v82]) n84
    replace hy := tp_same m84 hy
    replace hz := tp_same m84 hz
    replace hs := sqt_same m84 hs
    replace hv := tp_same m84 hv
    replace ob78 := m84 _ _ ob78
    replace t80 := m84 _ _ t80
    replace h80 := tp_same m84 h80
    replace t82 := m84 _ _ t82
    replace h82 := tp_same m84 h82
    have sm85 := Same.tr sm83 m84
    refine ⟨(by show 2 ≤ sizeLine; decide), fun y86 n86 => ?_⟩
    exact q _ _ _ (Same.ly sm85 n86) upd_same (tp_same (same_upd n86) tp84)
  | @for_ _ e _ st _ _ s1 e1 s2 st1 w1 w2 =>
    obtain ⟨q0, x, y, z, u, t, rfl, hs, hx, hy, hz, hu, ht⟩ := tp_5 hv
    cases tp_int hx
    cases tp_int hy
    cases tp_str hz
    refine ⟨_, rfl, _, _, _, (.str "for"), rfl, rfl, hs, rfl, ?_⟩
    refine ⟨_, rfl, (cs "for"), _, (cs "for("), (congrArg V.str (by decide +kernel)), rfl, (by decide +kernel), (by decide +kernel), ?_⟩
    refine ⟨_, rfl, rfl, _, rfl, ite2 (fun _ => ?_) (fun e => absurd (by decide +kernel) e)⟩
    refine ⟨_, rfl, _, _, _, (.str "e"), rfl, rfl, hs, rfl, _, (cs "e"), (cs "for(e"), rfl, (congrArg V.str (by decide +kernel)), (by decide +kernel), (by decide +kernel), _, _, (cs "for(e in "), rfl, rfl, (by decide +kernel), (by decide +kernel), ?_⟩
    refine ⟨_, rfl, (by show 2 ≤ sizeLine; decide), fun y87 n87 => ?_⟩
    have ob87 := lst_new (xs := [(.int 2), (.int 4)]) n87
    have m87 := same_upd (o := HO.lst [(.int 2), (.int 4)]) n87
    replace hu := tp_same m87 hu
    replace ht := tp_same m87 ht
    replace hs := sqt_same m87 hs
    replace hv := tp_same m87 hv
    have sm88 := m87
    refine ⟨_, rfl, rfl, .inr ⟨_, rfl, _, _, _, (.int 4), rfl, rfl, (SqL.of ob87), (by decide +kernel), _, _, _, u, rfl, rfl, hs, rfl, _, rfl, _, rfl, (cs "for(e in "), 9, rfl, (by decide +kernel), (by decide +kernel), _, _, rfl, rfl, _, _, _, _, _, _, _, rfl, hu, w1, (by simp only [List.length_append, List.length_cons, List.length_nil, LIM_eq] at hl ⊢; omega), fun H89 y89 v89 m89 t89 h89 => ?_⟩⟩
    replace hu := tp_same m89 hu
    replace ht := tp_same m89 ht
    replace hs := sqt_same m89 hs
    replace hv := tp_same m89 hv
    replace ob87 := m89 _ _ ob87
    have sm90 := Same.tr sm88 m89
    refine ⟨_, rfl, _, rfl, _, _, _, (.str (S s1)), rfl, rfl, (SqL.of t89), rfl, _, _, _, rfl, rfl, rfl, (by simp only [List.length_append, List.length_cons, List.length_nil, LIM_eq] at hl ⊢; omega), _, _, _, rfl, rfl, rfl, (by simp only [List.length_append, List.length_cons, List.length_nil, LIM_eq] at hl ⊢; omega), ?_⟩
    refine ⟨_, rfl, rfl, _, rfl, ite2 (fun e => absurd e (by decide +kernel)) (fun _ => ?_)⟩
    refine ⟨_, rfl, rfl, _, rfl, ite2 (fun _ => ?_) (fun e => absurd (by decide +kernel) e)⟩
    refine ⟨_, rfl, _, _, _, t, rfl, rfl, hs, rfl, _, rfl, _, rfl, _, _, rfl, (by simp only [List.length_append, List.length_cons, List.length_nil, LIM_eq] at hl ⊢; omega), rfl, _, _, rfl, rfl, _, _, _, _, _, _, _, rfl, ht, w2, (by simp only [List.length_append, List.length_cons, List.length_nil, LIM_eq] at hl ⊢; omega), fun H91 y91 v91 m91 t91 h91 => ?_⟩
    replace hu := tp_same m91 hu
    replace ht := tp_same m91 ht
    replace hs := sqt_same m91 hs
    replace hv := tp_same m91 hv
    replace ob87 := m91 _ _ ob87
    replace t89 := m91 _ _ t89
    replace h89 := tp_same m91 h89
    have sm92 := Same.tr sm90 m91
    refine ⟨_, rfl, _, rfl, _, _, _, (.str (S s2)), rfl, rfl, (SqL.of t91), rfl, _, _, _, rfl, rfl, rfl, (by simp only [List.length_append, List.length_cons, List.length_nil, LIM_eq] at hl ⊢; omega), _, rfl, _, rfl, _, _, rfl, rfl, _, rfl, _, _, _, (.str "e"), rfl, rfl, hs, rfl, _, rfl, _, _, _, v89, rfl, rfl, (SqL.of t89), rfl, _, rfl, _, _, _, v91, rfl, rfl, (SqL.of t91), rfl, (by show 6 ≤ sizeLine; decide), fun y93 n93 => ?_⟩
    have tp93 := tp_new (K := K) (xs := [(.str "for"), (.int at_), (.int (at_ + 4)), (.str "e"), v89, v91]) n93 (.cons (.str _) (.cons (.int _) (.cons (.int _) (.cons (.str _) (.cons h89 (.cons h91 .nil))))))
    have ob93 := sqt_new (K := K) (xs := [(.str "for"), (.int at_), (.int (at_ + 4)), (.str "e"), v89, v91]) n93
    have m93 := same_upd (o := HO.tup [(.str "for"), (.int at_), (.int (at_ + 4)), (.str "e"), v89, v91]) n93
    replace hu := tp_same m93 hu
    replace ht := tp_same m93 ht
    replace hs := sqt_same m93 hs
    replace hv := tp_same m93 hv
    replace ob87 := m93 _ _ ob87
    replace t89 := m93 _ _ t89
    replace h89 := tp_same m93 h89
    replace t91 := m93 _ _ t91
    replace h91 := tp_same m93 h91
    have sm94 := Same.tr sm92 m93
    refine ⟨(by show 2 ≤ sizeLine; decide), fun y95 n95 => ?_⟩
    exact q _ _ _ (Same.ly sm94 n95) upd_same (tp_same (same_upd n95) tp93)
  | @if1 _ e _ st _ _ s1 e1 s2 st1 w1 w2 =>
    obtain ⟨q0, x, y, z, u, rfl, hs, hx, hy, hz, hu⟩ := tp_4 hv
    cases tp_int hx
    cases tp_non hu
    refine ⟨_, rfl, _, _, _, (.str "if"), rfl, rfl, hs, rfl, ?_⟩
    refine ⟨_, rfl, (cs "if"), _, (cs "if("), (congrArg V.str (by decide +kernel)), rfl, (by decide +kernel), (by decide +kernel), ?_⟩
    refine ⟨_, rfl, rfl, _, rfl, ite2 (fun e => absurd e (by decide +kernel)) (fun _ => ?_)⟩
    refine ⟨_, rfl, (by show 2 ≤ sizeLine; decide), fun y96 n96 => ?_⟩
    have ob96 := lst_new (xs := [(.int 2), (.int 4)]) n96
    have m96 := same_upd (o := HO.lst [(.int 2), (.int 4)]) n96
    replace hy := tp_same m96 hy
    replace hz := tp_same m96 hz
    replace hs := sqt_same m96 hs
    replace hv := tp_same m96 hv
    have sm97 := m96
    refine ⟨_, rfl, rfl, .inr ⟨_, rfl, _, _, _, (.int 2), rfl, rfl, (SqL.of ob96), (by decide +kernel), _, _, _, y, rfl, rfl, hs, rfl, _, rfl, _, rfl, (cs "if("), 3, rfl, (by decide +kernel), (by decide +kernel), _, _, rfl, rfl, _, _, _, _, _, _, _, rfl, hy, w1, (by simp only [List.length_append, List.length_cons, List.length_nil, LIM_eq] at hl ⊢; omega), fun H98 y98 v98 m98 t98 h98 => ?_⟩⟩
    replace hy := tp_same m98 hy
    replace hz := tp_same m98 hz
    replace hs := sqt_same m98 hs
    replace hv := tp_same m98 hv
    replace ob96 := m98 _ _ ob96
    have sm99 := Same.tr sm97 m98
    refine ⟨_, rfl, _, rfl, _, _, _, (.str (S s1)), rfl, rfl, (SqL.of t98), rfl, _, _, _, rfl, rfl, rfl, (by simp only [List.length_append, List.length_cons, List.length_nil, LIM_eq] at hl ⊢; omega), _, _, _, rfl, rfl, rfl, (by simp only [List.length_append, List.length_cons, List.length_nil, LIM_eq] at hl ⊢; omega), ?_⟩
    refine ⟨_, rfl, rfl, _, rfl, ite2 (fun e => absurd e (by decide +kernel)) (fun _ => ?_)⟩
    refine ⟨_, rfl, rfl, _, rfl, ite2 (fun e => absurd e (by decide +kernel)) (fun _ => ?_)⟩
    refine ⟨_, rfl, _, _, _, z, rfl, rfl, hs, rfl, _, rfl, _, rfl, _, _, rfl, (by simp only [List.length_append, List.length_cons, List.length_nil, LIM_eq] at hl ⊢; omega), rfl, _, _, rfl, rfl, _, _, _, _, _, _, _, rfl, hz, w2, (by simp only [List.length_append, List.length_cons, List.length_nil, LIM_eq] at hl ⊢; omega), fun H100 y100 v100 m100 t100 h100 => ?_⟩
    replace hy := tp_same m100 hy
    replace hz := tp_same m100 hz
    replace hs := sqt_same m100 hs
    replace hv := tp_same m100 hv
    replace ob96 := m100 _ _ ob96
    replace t98 := m100 _ _ t98
    replace h98 := tp_same m100 h98
    have sm101 := Same.tr sm99 m100
    refine ⟨_, rfl, _, rfl, _, _, _, (.str (S s2)), rfl, rfl, (SqL.of t100), rfl, _, _, _, rfl, rfl, rfl, (by simp only [List.length_append, List.length_cons, List.length_nil, LIM_eq] at hl ⊢; omega), _, _, _, rfl, rfl, rfl, (by simp only [List.length_append, List.length_cons, List.length_nil, LIM_eq] at hl ⊢; omega), ?_⟩
    refine ⟨_, rfl, _, _, _, .non, rfl, rfl, hs, rfl, rfl, _, rfl, ite2 (fun _ => ?_) (fun e => absurd (by decide +kernel) e)⟩
    refine ⟨_, rfl, _, _, _, rfl, rfl, rfl, (by simp only [List.length_append, List.length_cons, List.length_nil, LIM_eq] at hl ⊢; omega), _, rfl, _, rfl, _, _, _, v98, rfl, rfl, (SqL.of t98), rfl, _, rfl, _, _, _, v100, rfl, rfl, (SqL.of t100), rfl, (by show 5 ≤ sizeLine; decide), fun y102 n102 => ?_⟩
    have tp102 := tp_new (K := K) (xs := [(.str "if"), (.int at_), v98, v100, .non]) n102 (.cons (.str _) (.cons (.int _) (.cons h98 (.cons h100 (.cons .non .nil)))))
    have ob102 := sqt_new (K := K) (xs := [(.str "if"), (.int at_), v98, v100, .non]) n102
    have m102 := same_upd (o := HO.tup [(.str "if"), (.int at_), v98, v100, .non]) n102
    replace hy := tp_same m102 hy
    replace hz := tp_same m102 hz
    replace hs := sqt_same m102 hs
    replace hv := tp_same m102 hv
    replace ob96 := m102 _ _ ob96
    replace t98 := m102 _ _ t98
    replace h98 := tp_same m102 h98
    replace t100 := m102 _ _ t100
    replace h100 := tp_same m102 h100
    have sm103 := Same.tr sm101 m102
    refine ⟨(by show 2 ≤ sizeLine; decide), fun y104 n104 => ?_⟩
    exact q _ _ _ (Same.ly sm103 n104) upd_same (tp_same (same_upd n104) tp102)
  | @if2 _ e _ st _ o _ _ s1 e1 s2 st1 s3 o1 w1 w2 ho w3 =>
    obtain ⟨q0, x, y, z, u, rfl, hs, hx, hy, hz, hu⟩ := tp_4 hv
    cases tp_int hx
    have hun : u ≠ .non := fun e => by
      subst e
      cases ho0 : o with
      | none => exact hN w3 ho0
      | _ =>
        rw [ho0] at hu
        cases hu
    refine ⟨_, rfl, _, _, _, (.str "if"), rfl, rfl, hs, rfl, ?_⟩
    refine ⟨_, rfl, (cs "if"), _, (cs "if("), (congrArg V.str (by decide +kernel)), rfl, (by decide +kernel), (by decide +kernel), ?_⟩
    refine ⟨_, rfl, rfl, _, rfl, ite2 (fun e => absurd e (by first | decide +kernel | exact fun z => hun (of_decide_eq_true z))) (fun _ => ?_)⟩
    refine ⟨_, rfl, (by show 2 ≤ sizeLine; decide), fun y105 n105 => ?_⟩
    have ob105 := lst_new (xs := [(.int 2), (.int 4)]) n105
    have m105 := same_upd (o := HO.lst [(.int 2), (.int 4)]) n105
    replace hy := tp_same m105 hy
    replace hz := tp_same m105 hz
    replace hu := tp_same m105 hu
    replace hs := sqt_same m105 hs
    replace hv := tp_same m105 hv
    have sm106 := m105
    refine ⟨_, rfl, rfl, .inr ⟨_, rfl, _, _, _, (.int 2), rfl, rfl, (SqL.of ob105), (by decide +kernel), _, _, _, y, rfl, rfl, hs, rfl, _, rfl, _, rfl, (cs "if("), 3, rfl, (by decide +kernel), (by decide +kernel), _, _, rfl, rfl, _, _, _, _, _, _, _, rfl, hy, w1, (by simp only [List.length_append, List.length_cons, List.length_nil, LIM_eq] at hl ⊢; omega), fun H107 y107 v107 m107 t107 h107 => ?_⟩⟩
    replace hy := tp_same m107 hy
    replace hz := tp_same m107 hz
    replace hu := tp_same m107 hu
    replace hs := sqt_same m107 hs
    replace hv := tp_same m107 hv
    replace ob105 := m107 _ _ ob105
    have sm108 := Same.tr sm106 m107
    refine ⟨_, rfl, _, rfl, _, _, _, (.str (S s1)), rfl, rfl, (SqL.of t107), rfl, _, _, _, rfl, rfl, rfl, (by simp only [List.length_append, List.length_cons, List.length_nil, LIM_eq] at hl ⊢; omega), _, _, _, rfl, rfl, rfl, (by simp only [List.length_append, List.length_cons, List.length_nil, LIM_eq] at hl ⊢; omega), ?_⟩
    refine ⟨_, rfl, rfl, _, rfl, ite2 (fun e => absurd e (by first | decide +kernel | exact fun z => hun (of_decide_eq_true z))) (fun _ => ?_)⟩
    refine ⟨_, rfl, rfl, _, rfl, ite2 (fun e => absurd e (by first | decide +kernel | exact fun z => hun (of_decide_eq_true z))) (fun _ => ?_)⟩
    refine ⟨_, rfl, _, _, _, z, rfl, rfl, hs, rfl, _, rfl, _, rfl, _, _, rfl, (by simp only [List.length_append, List.length_cons, List.length_nil, LIM_eq] at hl ⊢; omega), rfl, _, _, rfl, rfl, _, _, _, _, _, _, _, rfl, hz, w2, (by simp only [List.length_append, List.length_cons, List.length_nil, LIM_eq] at hl ⊢; omega), fun H109 y109 v109 m109 t109 h109 => ?_⟩
    replace hy := tp_same m109 hy
    replace hz := tp_same m109 hz
    replace hu := tp_same m109 hu
    replace hs := sqt_same m109 hs
    replace hv := tp_same m109 hv
    replace ob105 := m109 _ _ ob105
    replace t107 := m109 _ _ t107
    replace h107 := tp_same m109 h107
    have sm110 := Same.tr sm108 m109
    refine ⟨_, rfl, _, rfl, _, _, _, (.str (S s2)), rfl, rfl, (SqL.of t109), rfl, _, _, _, rfl, rfl, rfl, (by simp only [List.length_append, List.length_cons, List.length_nil, LIM_eq] at hl ⊢; omega), _, _, _, rfl, rfl, rfl, (by simp only [List.length_append, List.length_cons, List.length_nil, LIM_eq] at hl ⊢; omega), ?_⟩
    refine ⟨_, rfl, _, _, _, u, rfl, rfl, hs, rfl, rfl, _, rfl, ite2 (fun e => absurd e (by first | decide +kernel | exact fun z => hun (of_decide_eq_true z))) (fun _ => ?_)⟩
    refine ⟨_, rfl, _, _, _, u, rfl, rfl, hs, rfl, _, rfl, _, rfl, _, _, rfl, (by simp only [List.length_append, List.length_cons, List.length_nil, LIM_eq] at hl ⊢; omega), rfl, _, _, rfl, rfl, _, _, _, _, _, _, _, rfl, hu, w3, (by simp only [List.length_append, List.length_cons, List.length_nil, LIM_eq] at hl ⊢; omega), fun H111 y111 v111 m111 t111 h111 => ?_⟩
    replace hy := tp_same m111 hy
    replace hz := tp_same m111 hz
    replace hu := tp_same m111 hu
    replace hs := sqt_same m111 hs
    replace hv := tp_same m111 hv
    replace ob105 := m111 _ _ ob105
    replace t107 := m111 _ _ t107
    replace h107 := tp_same m111 h107
    replace t109 := m111 _ _ t109
    replace h109 := tp_same m111 h109
    have sm112 := Same.tr sm110 m111
    refine ⟨_, rfl, _, rfl, _, _, _, (.str (S s3)), rfl, rfl, (SqL.of t111), rfl, _, _, _, rfl, rfl, rfl, (by simp only [List.length_append, List.length_cons, List.length_nil, LIM_eq] at hl ⊢; omega), _, rfl, _, rfl, _, _, _, v107, rfl, rfl, (SqL.of t107), rfl, _, rfl, _, _, _, v109, rfl, rfl, (SqL.of t109), rfl, _, rfl, _, _, _, v111, rfl, rfl, (SqL.of t111), rfl, (by show 5 ≤ sizeLine; decide), fun y113 n113 => ?_⟩
    have tp113 := tp_new (K := K) (xs := [(.str "if"), (.int at_), v107, v109, v111]) n113 (.cons (.str _) (.cons (.int _) (.cons h107 (.cons h109 (.cons h111 .nil)))))
    have ob113 := sqt_new (K := K) (xs := [(.str "if"), (.int at_), v107, v109, v111]) n113
    have m113 := same_upd (o := HO.tup [(.str "if"), (.int at_), v107, v109, v111]) n113
    replace hy := tp_same m113 hy
    replace hz := tp_same m113 hz
    replace hu := tp_same m113 hu
    replace hs := sqt_same m113 hs
    replace hv := tp_same m113 hv
    replace ob105 := m113 _ _ ob105
    replace t107 := m113 _ _ t107
    replace h107 := tp_same m113 h107
    replace t109 := m113 _ _ t109
    replace h109 := tp_same m113 h109
    replace t111 := m113 _ _ t111
    replace h111 := tp_same m113 h111
    have sm114 := Same.tr sm112 m113
    refine ⟨(by show 2 ≤ sizeLine; decide), fun y115 n115 => ?_⟩
    exact q _ _ _ (Same.ly sm114 n115) upd_same (tp_same (same_upd n115) tp113)
end
end My
namespace My
open PySem L2 SX
/-! ### the writer, level by level -/
theorem ex_tup {E B : Rl} {a b at_ : Int} {d d' : D} {s : List Nat} (w : ExF E B a d b at_ s d') : ∃ k fs, d = tup k fs := by
  cases w with
  | leaf w =>
    obtain ⟨k, fs, rfl, _⟩ := leaf_head w
    exact ⟨_, _, rfl⟩
  | fn w =>
    cases w
    exact ⟨_, _, rfl⟩
  | _ => exact ⟨_, _, rfl⟩
theorem lvE_tup : ∀ (n : Nat) {a b at_ : Int} {d d' : D} {s : List Nat}, (LV n).E a d b at_ s d' → ∃ k fs, d = tup k fs
  | 0, _, _, _, _, _, _, w => by
    obtain ⟨k, fs, rfl, _⟩ := leaf_head w.2
    exact ⟨_, _, rfl⟩
  | n + 1, _, _, _, _, _, _, w => ex_tup w
theorem st_kd {E0 E St Bk : Rl} (hB : ∀ {a d b at_ s d'}, Bk a d b at_ s d' → ∃ fs, d = tup "block" fs) {a b at_ : Int} {d d' : D} {s : List Nat} (w : StF E0 E St Bk a d b at_ s d') : ∃ k fs, d = tup k fs ∧ k ≠ "let" ∧ k ≠ "group" := by
  cases w with
  | block w =>
    obtain ⟨fs, rfl⟩ := hB w
    exact ⟨_, _, rfl, by decide +kernel, by decide +kernel⟩
  | _ => exact ⟨_, _, rfl, by decide +kernel, by decide +kernel⟩
theorem bl_kd {It : Rl} {a b at_ : Int} {d d' : D} {s : List Nat} (w : BlF It a d b at_ s d') : ∃ fs, d = tup "block" fs := by
  cases w
  exact ⟨_, rfl⟩
theorem lvB_kd : ∀ (n : Nat) {a b at_ : Int} {d d' : D} {s : List Nat}, (LV n).B a d b at_ s d' → ∃ fs, d = tup "block" fs
  | 0, _, _, _, _, _, _, w => bl_kd w
  | _ + 1, _, _, _, _, _, _, w => bl_kd w
theorem no_kd {a b at_ : Int} {d d' : D} {s : List Nat} (w : noR a d b at_ s d') : ∃ fs, d = tup "block" fs := w.elim
theorem lvS_kd : ∀ (n : Nat) {a b at_ : Int} {d d' : D} {s : List Nat}, (LV n).S a d b at_ s d' → ∃ k fs, d = tup k fs ∧ k ≠ "let" ∧ k ≠ "group"
  | 0, _, _, _, _, _, _, w => st_kd no_kd w
  | n + 1, _, _, _, _, _, _, w => st_kd (lvB_kd n) w
section
variable {P : Program} {w : World} {K : PySem.W.Frag} {mg : Str → Option Value} {base : Heap} {a : Nat → Addr} {d : Nat → FuncData}
theorem step_write {E Bk : Rl} {k : Nat} (L : TW K mg a d) (B : Bl mg) (hk : ∀ {a d b at_ s d'}, E a d b at_ s d' → ∃ k fs, d = tup k fs) (Gw : FnOk P w K mg base CX0 k (a 2) (d 2) ["term", "at"] (spW K E)) (Gb : FnOk P w K mg base CX0 k (a 7) (d 7) ["block", "at"] (spW K Bk)) :
    FnOk P w K mg base CX0 (k + 3) (a 2) (d 2) ["term", "at"] (spW K (ExF E Bk)) := by
  have i := ok_inner L B hk Gw
  have l := ok_list L B Gw
  have b := ok_between (S0 := Bk) L B i
  have m := (ok_map L B Gw).mono (show k + 1 ≤ k + 2 by omega)
  have s := ok_suffixed (S0 := Bk) L B i l (Gw.mono (show k ≤ k + 1 by omega))
  have o := (ok_body L B Gb).mono (show k + 1 ≤ k + 2 by omega)
  exact ok_write L B (i.mono (show k + 1 ≤ k + 2 by omega)) (l.mono (show k + 1 ≤ k + 2 by omega)) b m s o
theorem step_stmt {E0 E St Bk : Rl} {k : Nat} (L : TW K mg a d) (B : Bl mg) (h0 : ∀ {a at_}, E0 a (tup "null" []) a at_ (cs "null") (tup "null" [])) (hB : ∀ {a d b at_ s d'}, Bk a d b at_ s d' → ∃ fs, d = tup "block" fs) (hN : ∀ {a d b at_ s d'}, St a d b at_ s d' → d ≠ .none)
    (G0 : FnOk P w K mg base CX0 k (a 2) (d 2) ["term", "at"] (spW K E0)) (Gw : FnOk P w K mg base CX0 k (a 2) (d 2) ["term", "at"] (spW K E)) (Gs : FnOk P w K mg base CX0 k (a 11) (d 11) ["term", "at"] (spW K St)) (Gb : FnOk P w K mg base CX0 k (a 7) (d 7) ["block", "at"] (spW K Bk)) :
    FnOk P w K mg base CX0 (k + 2) (a 11) (d 11) ["term", "at"] (spW K (StF E0 E St Bk)) := by
  have c := ok_compound_text (R0 := E0) (St := St) (Bk := Bk) L B hB hN Gw Gs
  exact ok_statement_text L B h0 hB ((ok_orW G0 Gw).mono (show k ≤ k + 1 by omega)) (Gb.mono (show k ≤ k + 1 by omega)) c
theorem step_block {E St Bk : Rl} {k : Nat} (L : TW K mg a d) (B : Bl mg) (hS : ∀ {a d b at_ s d'}, St a d b at_ s d' → ∃ k fs, d = tup k fs ∧ k ≠ "let" ∧ k ≠ "group")
    (Gw : FnOk P w K mg base CX0 k (a 2) (d 2) ["term", "at"] (spW K E)) (Gs : FnOk P w K mg base CX0 k (a 11) (d 11) ["term", "at"] (spW K St)) (Gb : FnOk P w K mg base CX0 k (a 7) (d 7) ["block", "at"] (spW K Bk)) :
    FnOk P w K mg base CX0 (k + 4) (a 8) (d 8) ["items", "at"] (spW K (ItsR (ItF E St Bk))) ∧ FnOk P w K mg base CX0 (k + 5) (a 7) (d 7) ["block", "at"] (spW K (BlF (ItF E St Bk))) := by
  have m := ok_member_text L B (ok_body L B Gb)
  have i := ok_item_text L B hS (Gw.mono (show k ≤ k + 2 by omega)) m (Gs.mono (show k ≤ k + 2 by omega))
  have t := ok_items L B i
  exact ⟨t, ok_block_text L B t⟩
/-- the items of a block of this level -/
def ItV : Nat → Rl
  | 0 => noR
  | n + 1 => ItF (LV n).E (LV (n + 1)).S (LV n).B
theorem lvB_eq : ∀ n, (LV n).B = BlF (ItV n)
  | 0 => rfl
  | _ + 1 => rfl
theorem ok_wlevels (L : TW K mg a d) (B : Bl mg) : ∀ n, FnOk P w K mg base CX0 (10 * n + 5) (a 2) (d 2) ["term", "at"] (spW K (LV n).E) ∧ FnOk P w K mg base CX0 (10 * n + 5) (a 11) (d 11) ["term", "at"] (spW K (LV n).S) ∧
    FnOk P w K mg base CX0 (10 * n + 5) (a 7) (d 7) ["block", "at"] (spW K (LV n).B) ∧ FnOk P w K mg base CX0 (10 * n + 5) (a 8) (d 8) ["items", "at"] (spW K (ItsR (ItV n)))
  | 0 => by
    have e0 : FnOk P w K mg base CX0 3 (a 2) (d 2) ["term", "at"] (spW K (ExF noR noR)) := step_write (k := 0) L B (fun h => h.elim) ok_noW ok_noW
    have e : FnOk P w K mg base CX0 3 (a 2) (d 2) ["term", "at"] (spW K leafR) := e0.imp (spW_imp fun {a d b at_ s d'} h => by
      obtain ⟨rfl, h⟩ := h
      exact ⟨b, b, .leaf h⟩)
    have s : FnOk P w K mg base CX0 5 (a 11) (d 11) ["term", "at"] (spW K (StF leafR noR noR noR)) := step_stmt L B ⟨rfl, .null⟩ no_kd (fun h => h.elim) e ok_noW ok_noW ok_noW
    have t : FnOk P w K mg base CX0 1 (a 8) (d 8) ["items", "at"] (spW K (ItsR noR)) := ok_items L B ok_noW
    exact ⟨e.mono (by decide), s, (ok_block_text L B t).mono (by decide), t.mono (by decide)⟩
  | n + 1 => by
    obtain ⟨e, s, b, _⟩ := ok_wlevels L B n
    have e1 : FnOk P w K mg base CX0 (10 * n + 8) (a 2) (d 2) ["term", "at"] (spW K (LV (n + 1)).E) := step_write L B (lvE_tup n) e b
    have s1 : FnOk P w K mg base CX0 (10 * n + 10) (a 11) (d 11) ["term", "at"] (spW K (LV (n + 1)).S) := step_stmt L B (.leaf .null) (lvB_kd n) (fun h z => by
      obtain ⟨k, fs, rfl, _⟩ := lvS_kd n h
      cases z) e1 (e.mono (by omega)) (s.mono (by omega)) (b.mono (by omega))
    obtain ⟨t1, b1⟩ := step_block (k := 10 * n + 10) L B (lvS_kd (n + 1)) (e.mono (by omega)) s1 (b.mono (by omega))
    exact ⟨e1.mono (by omega), s1.mono (by omega), b1.mono (by omega), t1.mono (by omega)⟩
end
end My
namespace My
open PySem L2 SX
/-! ### terms: their parts, their walk, their form without offsets -/
inductive Sh where
  | offset | plain | params | term | option | terms | pairs | members | methods
deriving DecidableEq
def Sh.s : Sh → Str
  | .offset => "offset"
  | .plain => "plain"
  | .params => "plain"
  | .term => "term"
  | .option => "option"
  | .terms => "terms"
  | .pairs => "pairs"
  | .members => "members"
  | .methods => "methods"
def shpT : List (Str × List Sh) := [(Str.ofString "null", []), (Str.ofString "bool", [Sh.plain]), (Str.ofString "int", [Sh.plain]), (Str.ofString "text", [Sh.plain]), (Str.ofString "name", [Sh.offset, Sh.plain]), (Str.ofString "assign", [Sh.offset, Sh.plain, Sh.term]), (Str.ofString "set_index", [Sh.offset, Sh.term, Sh.term, Sh.term]), (Str.ofString "set_field", [Sh.offset, Sh.term, Sh.plain, Sh.term]), (Str.ofString "unary", [Sh.offset, Sh.plain, Sh.term]), (Str.ofString "binary", [Sh.offset, Sh.plain, Sh.term, Sh.term]), (Str.ofString "both", [Sh.term, Sh.term]), (Str.ofString "either", [Sh.term, Sh.term]), (Str.ofString "list", [Sh.terms]), (Str.ofString "map", [Sh.offset, Sh.pairs]), (Str.ofString "index", [Sh.offset, Sh.term, Sh.term]), (Str.ofString "field", [Sh.offset, Sh.term, Sh.plain]), (Str.ofString "call", [Sh.offset, Sh.term, Sh.terms]), (Str.ofString "invoke", [Sh.offset, Sh.term, Sh.plain, Sh.terms]), (Str.ofString "super", [Sh.offset, Sh.plain, Sh.terms]), (Str.ofString "function", [Sh.offset, Sh.plain, Sh.params, Sh.term]), (Str.ofString "block", [Sh.terms]), (Str.ofString "let", [Sh.offset, Sh.plain, Sh.term]), (Str.ofString "group", [Sh.members]), (Str.ofString "class", [Sh.offset, Sh.plain, Sh.option, Sh.methods]), (Str.ofString "do", [Sh.term]), (Str.ofString "if", [Sh.offset, Sh.term, Sh.term, Sh.option]), (Str.ofString "while", [Sh.offset, Sh.term, Sh.term]), (Str.ofString "for", [Sh.offset, Sh.offset, Sh.plain, Sh.term, Sh.term]), (Str.ofString "break", [Sh.offset]), (Str.ofString "continue", [Sh.offset]), (Str.ofString "return", [Sh.offset, Sh.term]), (Str.ofString "throw", [Sh.offset, Sh.term]), (Str.ofString "try", [Sh.offset, Sh.term, Sh.offset, Sh.plain, Sh.term])]
def shpOf (k : Str) : Option (List Sh) := shpT.lookup k
abbrev TR := D → List D → D → Prop
def flat (qs : List (D × List D)) : List D := (qs.map (·.2)).flatten
inductive TL (T : TR) : List D → List (D × List D) → List D → Prop
  | nil : TL T [] [] []
  | cons {d w e ds qs es} : T d w e → TL T ds qs es → TL T (d :: ds) ((d, w) :: qs) (e :: es)
inductive PL (T : TR) : List D → List (D × List D) → List D → Prop
  | nil : PL T [] [] []
  | cons {k w1 e1 v w2 e2 ds qs es} : T k w1 e1 → T v w2 e2 → PL T ds qs es → PL T (.tuple [k, v] :: ds) ((k, w1) :: (v, w2) :: qs) (.tuple [e1, e2] :: es)
inductive ML (T : TR) : List D → List (D × List D) → List D → Prop
  | nil : ML T [] [] []
  | cons {i x d w e ds qs es} : T d w e → ML T ds qs es → ML T (.tuple [.int i, .str x, d] :: ds) ((d, w) :: qs) (.tuple [.int 0, .str x, e] :: es)
inductive HL (T : TR) : List D → List (D × List D) → List D → Prop
  | nil : HL T [] [] []
  | cons {x d w e ds qs es} : x ∈ [cs "init", cs "x", cs "size"] → T d w e → HL T ds qs es → HL T (.tuple [.str (S x), d] :: ds) ((d, w) :: qs) (.tuple [.str (S x), e] :: es)
def Scal : D → Prop
  | .str _ => True
  | .int _ => True
  | .bool _ => True
  | _ => False
inductive FF (T : TR) : Sh → D → List (D × List D) → D → Prop
  | offset {i} : FF T .offset (.int i) [] (.int 0)
  | plain {d} : Scal d → FF T .plain d [] d
  | params {ns} : FF T .params (strsD ns) [] (strsD ns)
  | term {d w e} : T d w e → FF T .term d [(d, w)] e
  | non : FF T .option .none [] .none
  | som {d w e} : T d w e → FF T .option d [(d, w)] e
  | terms {ds qs es} : TL T ds qs es → FF T .terms (.tuple ds) qs (.tuple es)
  | pairs {ds qs es} : PL T ds qs es → FF T .pairs (.tuple ds) qs (.tuple es)
  | members {ds qs es} : ML T ds qs es → FF T .members (.tuple ds) qs (.tuple es)
  | methods {ds qs es} : HL T ds qs es → FF T .methods (.tuple ds) qs (.tuple es)
inductive FFs (T : TR) : List Sh → List D → List (D × List D) → List D → Prop
  | nil : FFs T [] [] [] []
  | cons {s d q e ss ds qs es} : FF T s d q e → FFs T ss ds qs es → FFs T (s :: ss) (d :: ds) (q ++ qs) (e :: es)
def TT : Nat → TR
  | 0 => fun _ _ _ => False
  | n + 1 => fun d w e => ∃ k fs ss qs es, shpOf k = some ss ∧ d = tup k fs ∧ FFs (TT n) ss fs qs es ∧ w = d :: flat qs ∧ e = tup k es
theorem tt_mk {n : Nat} {k : Str} {ss : List Sh} {fs es : List D} {qs : List (D × List D)} (h : shpOf k = some ss) (f : FFs (TT n) ss fs qs es) : TT (n + 1) (tup k fs) (tup k fs :: flat qs) (tup k es) := ⟨k, fs, ss, qs, es, h, rfl, f, rfl, rfl⟩
section
variable {T U : TR}
theorem TL.mono (h : ∀ {d w e}, T d w e → U d w e) {ds qs es} : TL T ds qs es → TL U ds qs es
  | .nil => .nil
  | .cons a b => .cons (h a) (TL.mono h b)
theorem PL.mono (h : ∀ {d w e}, T d w e → U d w e) {ds qs es} : PL T ds qs es → PL U ds qs es
  | .nil => .nil
  | .cons a b c => .cons (h a) (h b) (PL.mono h c)
theorem ML.mono (h : ∀ {d w e}, T d w e → U d w e) {ds qs es} : ML T ds qs es → ML U ds qs es
  | .nil => .nil
  | .cons a b => .cons (h a) (ML.mono h b)
theorem HL.mono (h : ∀ {d w e}, T d w e → U d w e) {ds qs es} : HL T ds qs es → HL U ds qs es
  | .nil => .nil
  | .cons x a b => .cons x (h a) (HL.mono h b)
theorem FF.mono (h : ∀ {d w e}, T d w e → U d w e) {s d q e} : FF T s d q e → FF U s d q e
  | .offset => .offset
  | .plain x => .plain x
  | .params => .params
  | .term a => .term (h a)
  | .non => .non
  | .som a => .som (h a)
  | .terms a => .terms (a.mono h)
  | .pairs a => .pairs (a.mono h)
  | .members a => .members (a.mono h)
  | .methods a => .methods (a.mono h)
theorem FFs.mono (h : ∀ {d w e}, T d w e → U d w e) {ss ds qs es} : FFs T ss ds qs es → FFs U ss ds qs es
  | .nil => .nil
  | .cons a b => .cons (a.mono h) (FFs.mono h b)
theorem TL.snoc {ds qs es d w e} : TL T ds qs es → T d w e → TL T (ds ++ [d]) (qs ++ [(d, w)]) (es ++ [e])
  | .nil, h => .cons h .nil
  | .cons a b, h => .cons a (TL.snoc b h)
theorem PL.snoc {ds qs es k w1 e1 v w2 e2} : PL T ds qs es → T k w1 e1 → T v w2 e2 → PL T (ds ++ [.tuple [k, v]]) (qs ++ [(k, w1), (v, w2)]) (es ++ [.tuple [e1, e2]])
  | .nil, h, i => .cons h i .nil
  | .cons a b c, h, i => .cons a b (PL.snoc c h i)
theorem ML.snoc {ds qs es d w e i x} : ML T ds qs es → T d w e → ML T (ds ++ [.tuple [.int i, .str x, d]]) (qs ++ [(d, w)]) (es ++ [.tuple [.int 0, .str x, e]])
  | .nil, h => .cons h .nil
  | .cons a b, h => .cons a (ML.snoc b h)
theorem HL.snoc {ds qs es d w e x} (hx : x ∈ [cs "init", cs "x", cs "size"]) : HL T ds qs es → T d w e → HL T (ds ++ [.tuple [.str (S x), d]]) (qs ++ [(d, w)]) (es ++ [.tuple [.str (S x), e]])
  | .nil, h => .cons hx h .nil
  | .cons y a b, h => .cons y a (HL.snoc hx b h)
end
theorem TT.up1 : ∀ {n : Nat} {d : D} {w : List D} {e : D}, TT n d w e → TT (n + 1) d w e
  | 0, _, _, _, h => h.elim
  | n + 1, _, _, _, ⟨k, fs, ss, qs, es, h1, h2, h3, h4, h5⟩ => ⟨k, fs, ss, qs, es, h1, h2, h3.mono TT.up1, h4, h5⟩
theorem TT.up {n m : Nat} (l : n ≤ m) {d : D} {w : List D} {e : D} (h : TT n d w e) : TT m d w e := by
  induction l with
  | refl => exact h
  | step _ ih => exact TT.up1 ih
theorem flat_nil : flat [] = [] := rfl
theorem flat_cons {d : D} {w : List D} {qs : List (D × List D)} : flat ((d, w) :: qs) = w ++ flat qs := rfl
theorem flat_app {p q : List (D × List D)} : flat (p ++ q) = flat p ++ flat q := by
  unfold flat
  rw [List.map_append, List.flatten_append]
structure RT (R : Rl) (n : Nat) : Prop where
  ok : ∀ {a d b at_ s d'}, R a d b at_ s d' → ∃ w0 w, TT n d w0 d ∧ TT n d' w d ∧ w0.length ≤ s.length ∧ w.length ≤ s.length
theorem RT.up {R : Rl} {n m : Nat} (h : RT R n) (l : n ≤ m) : RT R m := .mk fun w => by
  obtain ⟨u0, u, h1, h2, h3⟩ := h.ok w
  exact ⟨u0, u, h1.up l, h2.up l, h3⟩
theorem rt_no {n : Nat} : RT noR n := .mk fun w => w.elim
theorem rt_inn {E : Rl} {n : Nat} (h : RT E n) : RT (InnW E) n := .mk fun w => by
  rcases w with ⟨_, w⟩ | ⟨_, t, rfl, w⟩
  · exact h.ok w
  · obtain ⟨u0, u, h1, h2, h3⟩ := h.ok w
    refine ⟨u0, u, h1, h2, ?_⟩
    simp only [List.length_append, List.length_cons, List.length_nil]
    omega
theorem rt_lw {E : Rl} {n : Nat} (h : RT E n) {sep : List Nat} {a ds b at_ s ds'} (w : LW E sep a ds b at_ s ds') : ∃ q0 q, TL (TT n) ds q0 ds ∧ TL (TT n) ds' q ds ∧ (flat q0).length ≤ s.length ∧ (flat q).length ≤ s.length := by
  induction w with
  | nil => exact ⟨[], [], .nil, .nil, Nat.zero_le _, Nat.zero_le _⟩
  | snoc w hsp he ih =>
    obtain ⟨q0, q, h1, h2, h3⟩ := ih
    obtain ⟨u0, u, h4, h5, h6⟩ := h.ok he
    refine ⟨_, _, h1.snoc h4, h2.snoc h5, ?_⟩
    simp only [flat_app, flat_cons, flat_nil, List.length_append, List.length_cons, List.length_nil]
    omega
theorem rt_iw {E : Rl} {n : Nat} (h : RT E n) {suf : List Nat} {a ds b at_ s ds'} (w : IW E suf a ds b at_ s ds') : ∃ q0 q, TL (TT n) ds q0 ds ∧ TL (TT n) ds' q ds ∧ (flat q0).length ≤ s.length ∧ (flat q).length ≤ s.length := by
  induction w with
  | nil => exact ⟨[], [], .nil, .nil, Nat.zero_le _, Nat.zero_le _⟩
  | snoc w he ih =>
    obtain ⟨q0, q, h1, h2, h3⟩ := ih
    obtain ⟨u0, u, h4, h5, h6⟩ := h.ok he
    refine ⟨_, _, h1.snoc h4, h2.snoc h5, ?_⟩
    simp only [flat_app, flat_cons, flat_nil, List.length_append, List.length_cons, List.length_nil]
    omega
theorem rt_pw {E : Rl} {n : Nat} (h : RT E n) {a ds b at_ s ds'} (w : PW2 E a ds b at_ s ds') : ∃ q0 q, PL (TT n) ds q0 ds ∧ PL (TT n) ds' q ds ∧ (flat q0).length ≤ s.length ∧ (flat q).length ≤ s.length := by
  induction w with
  | nil => exact ⟨[], [], .nil, .nil, Nat.zero_le _, Nat.zero_le _⟩
  | snoc w hsp he hv ih =>
    obtain ⟨q0, q, h1, h2, h3⟩ := ih
    obtain ⟨u0, u, h4, h5, h6⟩ := h.ok he
    obtain ⟨v0, v, h7, h8, h9⟩ := h.ok hv
    refine ⟨_, _, h1.snoc h4 h7, h2.snoc h5 h8, ?_⟩
    simp only [flat_app, flat_cons, flat_nil, List.length_append, List.length_cons, List.length_nil]
    omega
theorem head_len (ns : List (List Nat)) : 2 ≤ (headN ns).length := by
  unfold headN
  simp only [List.length_append, List.length_cons, List.length_nil]
  omega
theorem rt_fun {B : Rl} {n : Nat} (h : RT B n) {pre shown : List (List Nat)} {off : Int} : RT (FunW B pre shown off) (n + 1) := .mk fun w => by
  cases w with
  | @mk _ _ _ _ _ _ j hj w =>
    obtain ⟨u0, u, h1, h2, h3⟩ := h.ok w
    refine ⟨_, _, tt_mk (by decide +kernel) (.cons .offset (.cons (.plain trivial) (.cons .params (.cons (.term h1) .nil)))), tt_mk (by decide +kernel) (.cons .offset (.cons (.plain trivial) (.cons .params (.cons (.term h2) .nil)))), ?_⟩
    have := head_len (shown ++ abcd.take j)
    simp only [List.nil_append, List.append_nil, flat_cons, flat_nil, List.length_append, List.length_cons, List.length_nil]
    omega
theorem rt_mw {B : Rl} {n : Nat} (h : RT B n) {pre : List Nat} {a ds b at_ s ds'} (w : MtW B pre a ds b at_ s ds') : ∃ q0 q, HL (TT (n + 1)) ds q0 ds ∧ HL (TT (n + 1)) ds' q ds ∧ (flat q0).length + pre.length ≤ s.length ∧ (flat q).length + pre.length ≤ s.length := by
  induction w with
  | nil => exact ⟨[], [], .nil, .nil, by rw [flat_nil]; exact Nat.le_of_eq (Nat.zero_add _), by rw [flat_nil]; exact Nat.le_of_eq (Nat.zero_add _)⟩
  | snoc hx w he ih =>
    obtain ⟨q0, q, h1, h2, h3⟩ := ih
    obtain ⟨u0, u, h4, h5, h6⟩ := (rt_fun h).ok he
    refine ⟨_, _, h1.snoc hx h4, h2.snoc hx h5, ?_⟩
    simp only [flat_app, flat_cons, flat_nil, List.length_append, List.length_cons, List.length_nil]
    omega
theorem cls_len (p : Bool) : 5 ≤ (classHead p).length := by cases p <;> decide +kernel
theorem rt_mem {B : Rl} {n : Nat} (h : RT B n) {suf : List Nat} {a ds b at_ s ds'} (w : IW (MemF B) suf a ds b at_ s ds') : ∃ q0 q, ML (TT (n + 2)) ds q0 ds ∧ ML (TT (n + 2)) ds' q ds ∧ (flat q0).length + ds.length * suf.length ≤ s.length ∧ (flat q).length + ds.length * suf.length ≤ s.length := by
  induction w with
  | nil => exact ⟨[], [], .nil, .nil, by rw [flat_nil]; exact Nat.le_of_eq (by simp), by rw [flat_nil]; exact Nat.le_of_eq (by simp)⟩
  | snoc w he ih =>
    obtain ⟨q0, q, h1, h2, h3⟩ := ih
    have hm : ∀ k l : Nat, (k + 1) * l = k * l + l := fun k l => by rw [Nat.add_mul, Nat.one_mul]
    cases he with
    | fn w1 =>
      obtain ⟨u0, u, h4, h5, h6⟩ := (rt_fun h).ok w1
      refine ⟨_, _, h1.snoc (h4.up (by omega)), h2.snoc (h5.up (by omega)), ?_⟩
      simp only [flat_app, flat_cons, flat_nil, List.length_append, List.length_cons, List.length_nil, hm, Nat.zero_add]
      omega
    | @cls _ ms _ _ _ ms1 p hn wm =>
      obtain ⟨r0, r, h4, h5, h6⟩ := rt_mw h wm
      have hc := cls_len p
      cases p with
      | false =>
        refine ⟨_, _, h1.snoc (tt_mk (k := "class") (by decide +kernel) (.cons .offset (.cons (.plain trivial) (.cons .non (.cons (.methods h4) .nil))))), h2.snoc (tt_mk (k := "class") (by decide +kernel) (.cons .offset (.cons (.plain trivial) (.cons .non (.cons (.methods h5) .nil))))), ?_⟩
        simp only [flat_app, flat_cons, flat_nil, List.nil_append, List.append_nil, List.length_append, List.length_cons, List.length_nil, hm, Nat.zero_add]
        omega
      | true =>
        have tn : ∀ i : Int, TT (n + 1) (tup "name" [.int i, .str "B"]) [tup "name" [.int i, .str "B"]] (tup "name" [.int 0, .str "B"]) := fun i => tt_mk (k := "name") (fs := [.int i, .str "B"]) (es := [.int 0, .str "B"]) (qs := []) (ss := [.offset, .plain]) (by decide +kernel) (.cons (q := []) (qs := []) .offset (.cons (q := []) (qs := []) (.plain trivial) .nil))
        refine ⟨_, _, h1.snoc (tt_mk (k := "class") (by decide +kernel) (.cons .offset (.cons (.plain trivial) (.cons (.som (tn 0)) (.cons (.methods h4) .nil))))), h2.snoc (tt_mk (k := "class") (by decide +kernel) (.cons .offset (.cons (.plain trivial) (.cons (.som (tn _)) (.cons (.methods h5) .nil))))), ?_⟩
        simp only [flat_app, flat_cons, flat_nil, List.nil_append, List.append_nil, List.cons_append, flat_cons, List.length_append, List.length_cons, List.length_nil, hm, Nat.zero_add]
        omega
theorem nm_len : ∀ x ∈ names6, 1 ≤ x.length := by decide +kernel
theorem un_len : ∀ x ∈ [cs "-", cs "not"], 1 ≤ x.length := by decide +kernel
theorem dec_pos0 {i : Int} (h : 0 ≤ i) : 1 ≤ (toString i).length := by
  obtain ⟨n, rfl⟩ := Int.eq_ofNat_of_zero_le h
  show 1 ≤ (Nat.repr n).length
  unfold Nat.repr
  rw [String.length_ofList]
  exact Nat.length_toDigits_pos
theorem dec_pos {i : Int} (h : 0 ≤ i) : 1 ≤ (decC i).length := by
  unfold decC
  rw [Array.length_toList]
  exact Nat.le_trans (dec_pos0 h) (Nat.le_of_eq (ofString_length _).symm)
theorem leaf_rt {d : D} {at_ : Int} {s : List Nat} {d' : D} (w : LeafW d at_ s d') : ∃ w0 w, TT 1 d w0 d ∧ TT 1 d' w d ∧ w0.length ≤ s.length ∧ w.length ≤ s.length := by
  cases w with
  | name hx =>
    have := nm_len _ hx
    refine ⟨_, _, tt_mk (by decide +kernel) (.cons .offset (.cons (.plain trivial) .nil)), tt_mk (by decide +kernel) (.cons .offset (.cons (.plain trivial) .nil)), ?_⟩
    simp only [List.nil_append, List.append_nil, List.cons_append, flat_cons, flat_nil, flat_app, List.length_append, List.length_cons, List.length_nil]
    omega
  | @int i _ h0 h1 =>
    have := dec_pos h0
    refine ⟨_, _, tt_mk (by decide +kernel) (.cons (.plain trivial) .nil), tt_mk (by decide +kernel) (.cons (.plain trivial) .nil), ?_⟩
    simp only [List.nil_append, List.append_nil, List.cons_append, flat_cons, flat_nil, flat_app, List.length_append, List.length_cons, List.length_nil]
    omega
  | text hx =>
    refine ⟨_, _, tt_mk (by decide +kernel) (.cons (.plain trivial) .nil), tt_mk (by decide +kernel) (.cons (.plain trivial) .nil), ?_⟩
    simp only [List.nil_append, List.append_nil, List.cons_append, flat_cons, flat_nil, flat_app, List.length_append, List.length_cons, List.length_nil]
    omega
  | null =>
    refine ⟨_, _, tt_mk (by decide +kernel) .nil, tt_mk (by decide +kernel) .nil, by decide +kernel, by decide +kernel⟩
  | @bool b =>
    refine ⟨_, _, tt_mk (by decide +kernel) (.cons (.plain trivial) .nil), tt_mk (by decide +kernel) (.cons (.plain trivial) .nil), ?_⟩
    cases b <;> exact ⟨by decide +kernel, by decide +kernel⟩
theorem ex_rt {E B : Rl} {n : Nat} (hn : 1 ≤ n) (hE : RT E n) (hB : RT B n) : RT (ExF E B) (n + 1) := .mk fun w => by
  cases w with
  | leaf h =>
    obtain ⟨u0, u, h1, h2, h3⟩ := leaf_rt h
    exact ⟨u0, u, h1.up (by omega), h2.up (by omega), h3⟩
  | unary hx w1 =>
    obtain ⟨u10, u1, p1, r1, l1⟩ := (rt_inn hE).ok w1
    refine ⟨_, _, tt_mk (by decide +kernel) (.cons .offset (.cons (.plain trivial) (.cons (.term p1) .nil))), tt_mk (by decide +kernel) (.cons .offset (.cons (.plain trivial) (.cons (.term r1) .nil))), ?_⟩
    simp only [List.nil_append, List.append_nil, List.cons_append, flat_cons, flat_nil, flat_app, List.length_append, List.length_cons, List.length_nil]
    omega
  | binary hx w1 w2 =>
    obtain ⟨u10, u1, p1, r1, l1⟩ := (rt_inn hE).ok w1
    obtain ⟨u20, u2, p2, r2, l2⟩ := (rt_inn hE).ok w2
    refine ⟨_, _, tt_mk (by decide +kernel) (.cons .offset (.cons (.plain trivial) (.cons (.term p1) (.cons (.term p2) .nil)))), tt_mk (by decide +kernel) (.cons .offset (.cons (.plain trivial) (.cons (.term r1) (.cons (.term r2) .nil)))), ?_⟩
    simp only [List.nil_append, List.append_nil, List.cons_append, flat_cons, flat_nil, flat_app, List.length_append, List.length_cons, List.length_nil]
    omega
  | both w1 w2 =>
    obtain ⟨u10, u1, p1, r1, l1⟩ := (rt_inn hE).ok w1
    obtain ⟨u20, u2, p2, r2, l2⟩ := (rt_inn hE).ok w2
    refine ⟨_, _, tt_mk (by decide +kernel) (.cons (.term p1) (.cons (.term p2) .nil)), tt_mk (by decide +kernel) (.cons (.term r1) (.cons (.term r2) .nil)), ?_⟩
    simp only [List.nil_append, List.append_nil, List.cons_append, flat_cons, flat_nil, flat_app, List.length_append, List.length_cons, List.length_nil]
    omega
  | either w1 w2 =>
    obtain ⟨u10, u1, p1, r1, l1⟩ := (rt_inn hE).ok w1
    obtain ⟨u20, u2, p2, r2, l2⟩ := (rt_inn hE).ok w2
    refine ⟨_, _, tt_mk (by decide +kernel) (.cons (.term p1) (.cons (.term p2) .nil)), tt_mk (by decide +kernel) (.cons (.term r1) (.cons (.term r2) .nil)), ?_⟩
    simp only [List.nil_append, List.append_nil, List.cons_append, flat_cons, flat_nil, flat_app, List.length_append, List.length_cons, List.length_nil]
    omega
  | list hn w1 =>
    obtain ⟨u10, u1, p1, r1, l1⟩ := rt_lw hE w1
    refine ⟨_, _, tt_mk (by decide +kernel) (.cons (.terms p1) .nil), tt_mk (by decide +kernel) (.cons (.terms r1) .nil), ?_⟩
    simp only [List.nil_append, List.append_nil, List.cons_append, flat_cons, flat_nil, flat_app, List.length_append, List.length_cons, List.length_nil]
    omega
  | map hn w1 =>
    obtain ⟨u10, u1, p1, r1, l1⟩ := rt_pw hE w1
    refine ⟨_, _, tt_mk (by decide +kernel) (.cons .offset (.cons (.pairs p1) .nil)), tt_mk (by decide +kernel) (.cons .offset (.cons (.pairs r1) .nil)), ?_⟩
    simp only [List.nil_append, List.append_nil, List.cons_append, flat_cons, flat_nil, flat_app, List.length_append, List.length_cons, List.length_nil]
    omega
  | super hn w1 =>
    obtain ⟨u10, u1, p1, r1, l1⟩ := rt_lw hE w1
    refine ⟨_, _, tt_mk (by decide +kernel) (.cons .offset (.cons (.plain trivial) (.cons (.terms p1) .nil))), tt_mk (by decide +kernel) (.cons .offset (.cons (.plain trivial) (.cons (.terms r1) .nil))), ?_⟩
    simp only [List.nil_append, List.append_nil, List.cons_append, flat_cons, flat_nil, flat_app, List.length_append, List.length_cons, List.length_nil]
    omega
  | fn w1 =>
    obtain ⟨u0, u, h1, h2, h3⟩ := (rt_fun hB).ok w1
    refine ⟨u0, u, h1, h2, ?_⟩
    simp only [List.length_append]
    omega
  | assign hx w1 =>
    obtain ⟨u10, u1, p1, r1, l1⟩ := hE.ok w1
    refine ⟨_, _, tt_mk (by decide +kernel) (.cons .offset (.cons (.plain trivial) (.cons (.term p1) .nil))), tt_mk (by decide +kernel) (.cons .offset (.cons (.plain trivial) (.cons (.term r1) .nil))), ?_⟩
    simp only [List.nil_append, List.append_nil, List.cons_append, flat_cons, flat_nil, flat_app, List.length_append, List.length_cons, List.length_nil]
    omega
  | call hn w1 w2 =>
    obtain ⟨u10, u1, p1, r1, l1⟩ := (rt_inn hE).ok w1
    obtain ⟨u20, u2, p2, r2, l2⟩ := rt_lw hE w2
    refine ⟨_, _, tt_mk (by decide +kernel) (.cons .offset (.cons (.term p1) (.cons (.terms p2) .nil))), tt_mk (by decide +kernel) (.cons .offset (.cons (.term r1) (.cons (.terms r2) .nil))), ?_⟩
    simp only [List.nil_append, List.append_nil, List.cons_append, flat_cons, flat_nil, flat_app, List.length_append, List.length_cons, List.length_nil]
    omega
  | index w1 w2 =>
    obtain ⟨u10, u1, p1, r1, l1⟩ := (rt_inn hE).ok w1
    obtain ⟨u20, u2, p2, r2, l2⟩ := hE.ok w2
    refine ⟨_, _, tt_mk (by decide +kernel) (.cons .offset (.cons (.term p1) (.cons (.term p2) .nil))), tt_mk (by decide +kernel) (.cons .offset (.cons (.term r1) (.cons (.term r2) .nil))), ?_⟩
    simp only [List.nil_append, List.append_nil, List.cons_append, flat_cons, flat_nil, flat_app, List.length_append, List.length_cons, List.length_nil]
    omega
  | setIndex w1 w2 w3 =>
    obtain ⟨u10, u1, p1, r1, l1⟩ := (rt_inn hE).ok w1
    obtain ⟨u20, u2, p2, r2, l2⟩ := hE.ok w2
    obtain ⟨u30, u3, p3, r3, l3⟩ := hE.ok w3
    refine ⟨_, _, tt_mk (by decide +kernel) (.cons .offset (.cons (.term p1) (.cons (.term p2) (.cons (.term p3) .nil)))), tt_mk (by decide +kernel) (.cons .offset (.cons (.term r1) (.cons (.term r2) (.cons (.term r3) .nil)))), ?_⟩
    simp only [List.nil_append, List.append_nil, List.cons_append, flat_cons, flat_nil, flat_app, List.length_append, List.length_cons, List.length_nil]
    omega
  | field hx w1 =>
    obtain ⟨u10, u1, p1, r1, l1⟩ := (rt_inn hE).ok w1
    refine ⟨_, _, tt_mk (by decide +kernel) (.cons .offset (.cons (.term p1) (.cons (.plain trivial) .nil))), tt_mk (by decide +kernel) (.cons .offset (.cons (.term r1) (.cons (.plain trivial) .nil))), ?_⟩
    simp only [List.nil_append, List.append_nil, List.cons_append, flat_cons, flat_nil, flat_app, List.length_append, List.length_cons, List.length_nil]
    omega
  | invoke hx hn w1 w2 =>
    obtain ⟨u10, u1, p1, r1, l1⟩ := (rt_inn hE).ok w1
    obtain ⟨u20, u2, p2, r2, l2⟩ := rt_lw hE w2
    refine ⟨_, _, tt_mk (by decide +kernel) (.cons .offset (.cons (.term p1) (.cons (.plain trivial) (.cons (.terms p2) .nil)))), tt_mk (by decide +kernel) (.cons .offset (.cons (.term r1) (.cons (.plain trivial) (.cons (.terms r2) .nil)))), ?_⟩
    simp only [List.nil_append, List.append_nil, List.cons_append, flat_cons, flat_nil, flat_app, List.length_append, List.length_cons, List.length_nil]
    omega
  | setField w1 w2 =>
    obtain ⟨u10, u1, p1, r1, l1⟩ := (rt_inn hE).ok w1
    obtain ⟨u20, u2, p2, r2, l2⟩ := hE.ok w2
    refine ⟨_, _, tt_mk (by decide +kernel) (.cons .offset (.cons (.term p1) (.cons (.plain trivial) (.cons (.term p2) .nil)))), tt_mk (by decide +kernel) (.cons .offset (.cons (.term r1) (.cons (.plain trivial) (.cons (.term r2) .nil)))), ?_⟩
    simp only [List.nil_append, List.append_nil, List.cons_append, flat_cons, flat_nil, flat_app, List.length_append, List.length_cons, List.length_nil]
    omega
theorem st_rt {E0 E St B : Rl} {n : Nat} (hn : 1 ≤ n) (h0 : RT E0 n) (hE : RT E n) (hS : RT St n) (hB : RT B n) : RT (StF E0 E St B) (n + 1) := .mk fun w => by
  have hk : 1 ≤ (cs "try").length ∧ 1 ≤ (cs "while(").length ∧ 1 ≤ (cs "for(e in ").length ∧ 1 ≤ (cs "if(").length ∧ 1 ≤ (cs "return").length ∧ 1 ≤ (cs "throw").length := by decide +kernel
  have tn : TT n (tup "null" []) [tup "null" []] (tup "null" []) := TT.up hn (tt_mk (n := 0) (by decide +kernel) .nil)
  cases w with
  | do_ w1 =>
    obtain ⟨u10, u1, p1, r1, l1⟩ := h0.ok w1
    refine ⟨_, _, tt_mk (by decide +kernel) (.cons (.term p1) .nil), tt_mk (by decide +kernel) (.cons (.term r1) .nil), ?_⟩
    simp only [List.nil_append, List.append_nil, List.cons_append, flat_cons, flat_nil, flat_app, List.length_append, List.length_cons, List.length_nil]
    omega
  | block w1 =>
    obtain ⟨u0, u, h1, h2, h3⟩ := hB.ok w1
    exact ⟨u0, u, h1.up (by omega), h2.up (by omega), h3⟩
  | brk => exact ⟨_, _, tt_mk (by decide +kernel) (.cons .offset .nil), tt_mk (by decide +kernel) (.cons .offset .nil), by show 1 ≤ (cs "break;").length; decide +kernel, by show 1 ≤ (cs "break;").length; decide +kernel⟩
  | cont => exact ⟨_, _, tt_mk (by decide +kernel) (.cons .offset .nil), tt_mk (by decide +kernel) (.cons .offset .nil), by show 1 ≤ (cs "continue;").length; decide +kernel, by show 1 ≤ (cs "continue;").length; decide +kernel⟩
  | ret0 => exact ⟨_, _, tt_mk (by decide +kernel) (.cons .offset (.cons (.term tn) .nil)), tt_mk (by decide +kernel) (.cons .offset (.cons (.term tn) .nil)), by show 2 ≤ (cs "return null;").length; decide +kernel, by show 2 ≤ (cs "return null;").length; decide +kernel⟩
  | ret w1 =>
    obtain ⟨u10, u1, p1, r1, l1⟩ := hE.ok w1
    refine ⟨_, _, tt_mk (by decide +kernel) (.cons .offset (.cons (.term p1) .nil)), tt_mk (by decide +kernel) (.cons .offset (.cons (.term r1) .nil)), ?_⟩
    simp only [List.nil_append, List.append_nil, List.cons_append, flat_cons, flat_nil, flat_app, List.length_append, List.length_cons, List.length_nil]
    omega
  | throw w1 =>
    obtain ⟨u10, u1, p1, r1, l1⟩ := hE.ok w1
    refine ⟨_, _, tt_mk (by decide +kernel) (.cons .offset (.cons (.term p1) .nil)), tt_mk (by decide +kernel) (.cons .offset (.cons (.term r1) .nil)), ?_⟩
    simp only [List.nil_append, List.append_nil, List.cons_append, flat_cons, flat_nil, flat_app, List.length_append, List.length_cons, List.length_nil]
    omega
  | try_ w1 w2 =>
    obtain ⟨u10, u1, p1, r1, l1⟩ := hB.ok w1
    obtain ⟨u20, u2, p2, r2, l2⟩ := hB.ok w2
    refine ⟨_, _, tt_mk (by decide +kernel) (.cons .offset (.cons (.term p1) (.cons .offset (.cons (.plain trivial) (.cons (.term p2) .nil))))), tt_mk (by decide +kernel) (.cons .offset (.cons (.term r1) (.cons .offset (.cons (.plain trivial) (.cons (.term r2) .nil))))), ?_⟩
    simp only [List.nil_append, List.append_nil, List.cons_append, flat_cons, flat_nil, flat_app, List.length_append, List.length_cons, List.length_nil]
    omega
  | while_ w1 w2 =>
    obtain ⟨u10, u1, p1, r1, l1⟩ := hE.ok w1
    obtain ⟨u20, u2, p2, r2, l2⟩ := hS.ok w2
    refine ⟨_, _, tt_mk (by decide +kernel) (.cons .offset (.cons (.term p1) (.cons (.term p2) .nil))), tt_mk (by decide +kernel) (.cons .offset (.cons (.term r1) (.cons (.term r2) .nil))), ?_⟩
    simp only [List.nil_append, List.append_nil, List.cons_append, flat_cons, flat_nil, flat_app, List.length_append, List.length_cons, List.length_nil]
    omega
  | for_ w1 w2 =>
    obtain ⟨u10, u1, p1, r1, l1⟩ := hE.ok w1
    obtain ⟨u20, u2, p2, r2, l2⟩ := hS.ok w2
    refine ⟨_, _, tt_mk (by decide +kernel) (.cons .offset (.cons .offset (.cons (.plain trivial) (.cons (.term p1) (.cons (.term p2) .nil))))), tt_mk (by decide +kernel) (.cons .offset (.cons .offset (.cons (.plain trivial) (.cons (.term r1) (.cons (.term r2) .nil))))), ?_⟩
    simp only [List.nil_append, List.append_nil, List.cons_append, flat_cons, flat_nil, flat_app, List.length_append, List.length_cons, List.length_nil]
    omega
  | if1 w1 w2 =>
    obtain ⟨u10, u1, p1, r1, l1⟩ := hE.ok w1
    obtain ⟨u20, u2, p2, r2, l2⟩ := hS.ok w2
    refine ⟨_, _, tt_mk (by decide +kernel) (.cons .offset (.cons (.term p1) (.cons (.term p2) (.cons .non .nil)))), tt_mk (by decide +kernel) (.cons .offset (.cons (.term r1) (.cons (.term r2) (.cons .non .nil)))), ?_⟩
    simp only [List.nil_append, List.append_nil, List.cons_append, flat_cons, flat_nil, flat_app, List.length_append, List.length_cons, List.length_nil]
    omega
  | if2 w1 w2 ho w3 =>
    obtain ⟨u10, u1, p1, r1, l1⟩ := hE.ok w1
    obtain ⟨u20, u2, p2, r2, l2⟩ := hS.ok w2
    obtain ⟨u30, u3, p3, r3, l3⟩ := hS.ok w3
    refine ⟨_, _, tt_mk (by decide +kernel) (.cons .offset (.cons (.term p1) (.cons (.term p2) (.cons (.som p3) .nil)))), tt_mk (by decide +kernel) (.cons .offset (.cons (.term r1) (.cons (.term r2) (.cons (.som r3) .nil)))), ?_⟩
    simp only [List.nil_append, List.append_nil, List.cons_append, flat_cons, flat_nil, flat_app, List.length_append, List.length_cons, List.length_nil]
    omega
theorem it_rt {E St B : Rl} {n : Nat} (hE : RT E n) (hS : RT St (n + 3)) (hB : RT B n) : RT (ItF E St B) (n + 3) := .mk fun w => by
  cases w with
  | let_ hx w1 =>
    have hk : 1 ≤ (cs "let ").length := by decide +kernel
    obtain ⟨u10, u1, p1, r1, l1⟩ := (hE.up (show n ≤ n + 2 by omega)).ok w1
    refine ⟨_, _, tt_mk (by decide +kernel) (.cons .offset (.cons (.plain trivial) (.cons (.term p1) .nil))), tt_mk (by decide +kernel) (.cons .offset (.cons (.plain trivial) (.cons (.term r1) .nil))), ?_⟩
    simp only [List.nil_append, List.append_nil, List.cons_append, flat_cons, flat_nil, flat_app, List.length_append, List.length_cons, List.length_nil]
    omega
  | group hn1 hn w1 =>
    obtain ⟨u10, u1, p1, r1, l1⟩ := rt_mem hB w1
    have hl : 1 ≤ _ * ([32] : List Nat).length := Nat.le_trans hn1 (Nat.le_of_eq (Nat.mul_one _).symm)
    refine ⟨_, _, tt_mk (by decide +kernel) (.cons (.members p1) .nil), tt_mk (by decide +kernel) (.cons (.members r1) .nil), ?_⟩
    simp only [List.nil_append, List.append_nil, List.cons_append, flat_cons, flat_nil, flat_app, List.length_append, List.length_cons, List.length_nil]
    omega
  | st w1 =>
    exact hS.ok w1
theorem bl_rt {It : Rl} {n : Nat} (h : RT It n) : RT (BlF It) (n + 1) := .mk fun w => by
  cases w with
  | mk hl hg w1 =>
    obtain ⟨u10, u1, p1, r1, l1⟩ := rt_iw h w1
    refine ⟨_, _, tt_mk (by decide +kernel) (.cons (.terms p1) .nil), tt_mk (by decide +kernel) (.cons (.terms r1) .nil), ?_⟩
    simp only [List.nil_append, List.append_nil, List.cons_append, flat_cons, flat_nil, flat_app, List.length_append, List.length_cons, List.length_nil]
    omega
theorem lv_rt : ∀ n, RT (LV n).E (5 * n + 2) ∧ RT (LV n).S (5 * n + 2) ∧ RT (LV n).B (5 * n + 2)
  | 0 => ⟨(RT.mk fun w => leaf_rt w.2 : RT leafR 1).up (by omega), (st_rt (n := 1) (by omega) (.mk fun w => leaf_rt w.2) rt_no rt_no rt_no), (bl_rt (n := 1) rt_no)⟩
  | n + 1 => by
    obtain ⟨hE, hS, hB⟩ := lv_rt n
    have E1 : RT (LV (n + 1)).E (5 * n + 3) := ex_rt (by omega) hE hB
    have S1 : RT (LV (n + 1)).S (5 * n + 4) := st_rt (by omega) E1 (hE.up (by omega)) (hS.up (by omega)) (hB.up (by omega))
    have I1 : RT (ItF (LV n).E (LV (n + 1)).S (LV n).B) (5 * n + 5) := it_rt (n := 5 * n + 2) hE (S1.up (by omega)) hB
    exact ⟨E1.up (by omega), S1.up (by omega), (bl_rt I1).up (by omega)⟩
end My
namespace My
open PySem L2 SX CwR RZ StX
open C8 (pss_cut tCut cutS_slice pe_gc)
/-! ### parts, one after another -/
def QS (n : Nat) (qs : List (D × List D)) (f : Nat → List (D × List D) → Prop) : Prop := ∃ F : Nat → List (D × List D), F 0 = [] ∧ F n = qs ∧ (∀ i, i < n → ∃ r, f i r ∧ F (i + 1) = F i ++ r) ∧ ∀ i, i ≤ n → (F i).length ≤ qs.length ∧ (flat (F i)).length ≤ (flat qs).length
theorem qs_nil {f : Nat → List (D × List D) → Prop} : QS 0 [] f := ⟨fun _ => [], rfl, rfl, fun i h => by omega, fun i h => ⟨Nat.le_refl _, Nat.le_refl _⟩⟩
theorem qs_cons {n : Nat} {qs r : List (D × List D)} {f g : Nat → List (D × List D) → Prop} (h : QS n qs f) (hr : g 0 r) (hf : ∀ i r, f i r → g (i + 1) r) : QS (n + 1) (r ++ qs) g := by
  obtain ⟨F, h0, h1, h2, h3⟩ := h
  refine ⟨fun i => match i with | 0 => [] | i + 1 => r ++ F i, rfl, by show r ++ F n = r ++ qs; rw [h1], fun i hi => ?_, fun i hi => ?_⟩
  · cases i with
    | zero => exact ⟨r, hr, by show r ++ F 0 = [] ++ r; rw [h0, List.append_nil, List.nil_append]⟩
    | succ i =>
      obtain ⟨r', h4, h5⟩ := h2 i (by omega)
      exact ⟨r', hf i r' h4, by show r ++ F (i + 1) = r ++ F i ++ r'; rw [h5, List.append_assoc]⟩
  · cases i with
    | zero => exact ⟨Nat.zero_le _, Nat.zero_le _⟩
    | succ i =>
      show (r ++ F i).length ≤ (r ++ qs).length ∧ (flat (r ++ F i)).length ≤ (flat (r ++ qs)).length
      rw [List.length_append, List.length_append, flat_app, flat_app, List.length_append, List.length_append]
      exact ⟨Nat.add_le_add_left (h3 i (by omega)).1 _, Nat.add_le_add_left (h3 i (by omega)).2 _⟩
section
variable {T : TR}
theorem TL.qs : ∀ {ds qs es}, TL T ds qs es → es.length = ds.length ∧ QS ds.length qs fun i r => ∃ d w e, ds[i]? = some d ∧ es[i]? = some e ∧ T d w e ∧ r = [(d, w)]
  | _, _, _, .nil => ⟨rfl, qs_nil⟩
  | _, _, _, .cons h a => by
    obtain ⟨l, q⟩ := TL.qs a
    exact ⟨by rw [List.length_cons, l]; rfl, qs_cons (r := [_]) q ⟨_, _, _, rfl, rfl, h, rfl⟩ fun i r ⟨d, w, e, h1, h2, h3, h4⟩ => ⟨d, w, e, h1, h2, h3, h4⟩⟩
theorem PL.qs : ∀ {ds qs es}, PL T ds qs es → es.length = ds.length ∧ QS ds.length qs fun i r => ∃ k w1 e1 v w2 e2, ds[i]? = some (.tuple [k, v]) ∧ es[i]? = some (.tuple [e1, e2]) ∧ T k w1 e1 ∧ T v w2 e2 ∧ r = [(k, w1), (v, w2)]
  | _, _, _, .nil => ⟨rfl, qs_nil⟩
  | _, _, _, .cons h i a => by
    obtain ⟨l, q⟩ := PL.qs a
    exact ⟨by rw [List.length_cons, l]; rfl, qs_cons (r := [_, _]) q ⟨_, _, _, _, _, _, rfl, rfl, h, i, rfl⟩ fun i r ⟨k, w1, e1, v, w2, e2, h1, h2, h3, h4, h5⟩ => ⟨k, w1, e1, v, w2, e2, h1, h2, h3, h4, h5⟩⟩
theorem ML.qs : ∀ {ds qs es}, ML T ds qs es → es.length = ds.length ∧ QS ds.length qs fun i r => ∃ z x d w e, ds[i]? = some (.tuple [.int z, .str x, d]) ∧ es[i]? = some (.tuple [.int 0, .str x, e]) ∧ T d w e ∧ r = [(d, w)]
  | _, _, _, .nil => ⟨rfl, qs_nil⟩
  | _, _, _, .cons h a => by
    obtain ⟨l, q⟩ := ML.qs a
    exact ⟨by rw [List.length_cons, l]; rfl, qs_cons (r := [_]) q ⟨_, _, _, _, _, rfl, rfl, h, rfl⟩ fun i r ⟨z, x, d, w, e, h1, h2, h3, h4⟩ => ⟨z, x, d, w, e, h1, h2, h3, h4⟩⟩
theorem HL.qs : ∀ {ds qs es}, HL T ds qs es → es.length = ds.length ∧ QS ds.length qs fun i r => ∃ x d w e, x ∈ [cs "init", cs "x", cs "size"] ∧ ds[i]? = some (.tuple [.str (S x), d]) ∧ es[i]? = some (.tuple [.str (S x), e]) ∧ T d w e ∧ r = [(d, w)]
  | _, _, _, .nil => ⟨rfl, qs_nil⟩
  | _, _, _, .cons hx h a => by
    obtain ⟨l, q⟩ := HL.qs a
    exact ⟨by rw [List.length_cons, l]; rfl, qs_cons (r := [_]) q ⟨_, _, _, _, hx, rfl, rfl, h, rfl⟩ fun i r ⟨x, d, w, e, h0, h1, h2, h3, h4⟩ => ⟨x, d, w, e, h0, h1, h2, h3, h4⟩⟩
theorem FFs.qs : ∀ {ss ds qs es}, FFs T ss ds qs es → ds.length = ss.length ∧ es.length = ss.length ∧ QS ss.length qs fun i r => ∃ s d e, ss[i]? = some s ∧ ds[i]? = some d ∧ es[i]? = some e ∧ FF T s d r e
  | _, _, _, _, .nil => ⟨rfl, rfl, qs_nil⟩
  | _, _, _, _, .cons h a => by
    obtain ⟨l, l2, q⟩ := FFs.qs a
    exact ⟨by rw [List.length_cons, l]; rfl, by rw [List.length_cons, l2]; rfl, qs_cons q ⟨_, _, _, rfl, rfl, rfl, h⟩ fun i r ⟨s, d, e, h1, h2, h3, h4⟩ => ⟨s, d, e, h1, h2, h3, h4⟩⟩
end
/-- a comprehension over a walk, whatever stands within -/
theorem lcG {J : It} {n : Nat} {G : Hp → Prop} {Y : Nat → Hp → V → Hp → Prop} (w : Walk J n G Y) {g : TG} {tt : L2.TT} {body : St → Hp → (Hp → Prop) → Prop} {vs : List Nat} {σ : St} {H0 : Hp} {Qd : Hp → Prop} (Pv : Nat → Hp → Prop) (h0 : Pv 0 H0) (hG : ∀ i H, i ≤ n → Pv i H → G H)
    (hs : ∀ i x H H', i < n → Pv i H → Y i H x H' → g x (wipe σ vs) H' fun σ2 H2 => wipe σ2 vs = wipe σ vs ∧ tt σ2 H2 fun b H3 => if b = true then body σ2 H3 (Pv (i + 1)) else Pv (i + 1) H3) (hd : ∀ H, Pv n H → Qd H) :
    ∃ W : Nat → Nat → Hp → Prop, (∃ m, W 0 m H0) ∧ ∀ i m H, W i m H →
      (J.stop i H ∧ Qd H) ∨ (J.go i H ∧ ∃ Nx : Hp → Prop, (∀ H', Nx H' → ∃ m', m' < m ∧ W (i + 1) m' H') ∧ ∀ x H', J.yld i H x H' → g x (wipe σ vs) H' fun σ2 H2 => wipe σ2 vs = wipe σ vs ∧ tt σ2 H2 fun b H3 => if b = true then body σ2 H3 Nx else Nx H3) := by
  refine ⟨fun i m H => m = n - i ∧ i ≤ n ∧ Pv i H, ⟨n, by simp, Nat.zero_le _, h0⟩, ?_⟩
  rintro i m H ⟨rfl, hi, p⟩
  have q := hG i H hi p
  by_cases hlt : i < n
  · refine .inr ⟨w.goes i H hlt q, Pv (i + 1), fun H' p' => ⟨n - (i + 1), by omega, rfl, hlt, p'⟩, fun x H' y => hs i x H H' hlt p (w.yields i H x H' hlt q y)⟩
  · have e : i = n := by omega
    subst e
    exact .inl ⟨w.stops H q, hd H p⟩
theorem walk_zipT {K : PySem.W.Frag} {a b : Addr} {xs ys : List V} (hn : xs.length = ys.length) : Walk (ItzT K a b) xs.length (fun H => SqT K H a xs ∧ SqT K H b ys) (YPair (fun i => xs[i]?) (fun i => ys[i]?)) := by
  refine ⟨fun i _ hi q => ?_, fun _ q => ⟨xs, ys, q.1, q.2, .inl (Nat.le_refl _)⟩, fun i H v H' _ q y => ?_⟩
  · have h2 : i < ys.length := by omega
    exact ⟨xs, ys, xs[i], ys[i], q.1, q.2, by simp [hi], by simp [h2]⟩
  · obtain ⟨T, x, z, h1, h2, h3, h4, h5⟩ := y
    exact ⟨T, x, z, h1, h2, h3, h4 xs q.1, h5 ys q.2⟩
/-- the table of shapes, where it stands -/
structure KSh (K : PySem.W.Frag) (ww : World) (mg : Str → Option Value) : Prop where
  ex : ∃ aS, mg "SHAPES" = some (.ref aS) ∧ ∀ k ss, shpOf k = some ss → ∃ b, KDct K ww aS k (.ref b) ∧ ∀ H, SqT K H b (ss.map fun s => V.str s.s)
/-- the program's defs, where they stand -/
structure TPr (K : PySem.W.Frag) (mg : Str → Option Value) (a : Nat → Addr) (d : Nat → FuncData) : Prop where
  fparts_of : Fun K "parts_of" "parts_of" (top 2) (a 0) (d 0)
  bparts_of : Binds K (d 0) ["term"] []
  gparts_of : mg "parts_of" = some (.ref (a 0))
  fterms_in : Fun K "terms_in" "terms_in" (top 3) (a 1) (d 1)
  bterms_in : Binds K (d 1) ["shape", "held"] []
  gterms_in : mg "terms_in" = some (.ref (a 1))
  fwithout_offsets : Fun K "without_offsets" "without_offsets" (top 6) (a 2) (d 2)
  bwithout_offsets : Binds K (d 2) ["term"] []
  gwithout_offsets : mg "without_offsets" = some (.ref (a 2))
  fbare : Fun K "bare" "bare" (top 7) (a 3) (d 3)
  bbare : Binds K (d 3) ["shape", "held"] []
  gbare : mg "bare" = some (.ref (a 3))
  fwith_parts : Fun K "with_parts" "with_parts" (top 4) (a 4) (d 4)
  bwith_parts : Binds K (d 4) ["term", "action"] []
  gwith_parts : mg "with_parts" = some (.ref (a 4))
  frebuilt : Fun K "rebuilt" "rebuilt" (top 5) (a 5) (d 5)
  brebuilt : Binds K (d 5) ["shape", "held", "action"] []
  grebuilt : mg "rebuilt" = some (.ref (a 5))
/-- what is asked of terms: tuples with a kind, a walk that is not empty -/
def GoodT (T : TR) : Prop := ∀ {d w e}, T d w e → (∃ k fs, d = tup k fs) ∧ 1 ≤ w.length
theorem tt_good (n : Nat) : GoodT (TT n) := fun {d w e} h => by
  cases n with
  | zero => exact h.elim
  | succ n =>
    obtain ⟨k, fs, ss, qs, es, h1, rfl, h3, rfl, h5⟩ := h
    exact ⟨⟨k, fs, rfl⟩, by rw [List.length_cons]; omega⟩
section
variable {T : TR}
theorem TL.len (g : GoodT T) {ds qs es} : TL T ds qs es → qs.length ≤ (flat qs).length ∧ ds.length = qs.length
  | .nil => ⟨Nat.le_refl _, rfl⟩
  | .cons h a => by
    have := TL.len g a
    have := (g h).2
    rw [flat_cons, List.length_append]
    simp only [List.length_cons]
    omega
theorem PL.len (g : GoodT T) {ds qs es} : PL T ds qs es → qs.length ≤ (flat qs).length ∧ ds.length ≤ qs.length
  | .nil => ⟨Nat.le_refl _, Nat.le_refl _⟩
  | .cons h i a => by
    have := PL.len g a
    have := (g h).2
    have := (g i).2
    rw [flat_cons, flat_cons, List.length_append, List.length_append]
    simp only [List.length_cons]
    omega
theorem ML.len (g : GoodT T) {ds qs es} : ML T ds qs es → qs.length ≤ (flat qs).length ∧ ds.length = qs.length
  | .nil => ⟨Nat.le_refl _, rfl⟩
  | .cons h a => by
    have := ML.len g a
    have := (g h).2
    rw [flat_cons, List.length_append]
    simp only [List.length_cons]
    omega
theorem HL.len (g : GoodT T) {ds qs es} : HL T ds qs es → qs.length ≤ (flat qs).length ∧ ds.length = qs.length
  | .nil => ⟨Nat.le_refl _, rfl⟩
  | .cons hx h a => by
    have := HL.len g a
    have := (g h).2
    rw [flat_cons, List.length_append]
    simp only [List.length_cons]
    omega
theorem FF.len (g : GoodT T) {s d q e} (h : FF T s d q e) : q.length ≤ (flat q).length := by
  cases h with
  | term h =>
    have := (g h).2
    rw [flat_cons, List.length_append]
    simp only [List.length_cons, List.length_nil]
    omega
  | som h =>
    have := (g h).2
    rw [flat_cons, List.length_append]
    simp only [List.length_cons, List.length_nil]
    omega
  | terms h => exact (h.len g).1
  | pairs h => exact (h.len g).1
  | members h => exact (h.len g).1
  | methods h => exact (h.len g).1
  | _ => exact Nat.zero_le _
theorem FFs.len (g : GoodT T) {ss ds qs es} : FFs T ss ds qs es → qs.length ≤ (flat qs).length
  | .nil => Nat.le_refl _
  | .cons h a => by
    have := FFs.len g a
    have := h.len g
    rw [flat_app, List.length_append, List.length_append]
    omega
end
/-! ### terms_in -/
def spTI (K : PySem.W.Frag) (T : TR) : Sp := fun vs H Q _ => ∃ (s : Sh) (v : V) (d : D) (qs : List (D × List D)) (e : D), vs = [.str s.s, v] ∧ Tp K H v d ∧ FF T s d qs e ∧ qs.length ≤ LIM ∧
  ∀ H' l xs, Same H H' → H' l = some (.lst xs) → TpAll K H' xs (qs.map (·.1)) → Q (.ref l) H'
section
variable {P : Program} {w : World} {K : PySem.W.Frag} {mg : Str → Option Value} {base : Heap} {a : Nat → Addr} {d : Nat → FuncData}
theorem scTermsIn : FnScope ["shape", "held", "pair", "part", "member", "method"] ["shape", "held"] (defScope (top 3)) := ⟨rfl, rfl, rfl, by decide +kernel, rfl, by decide +kernel, by decide +kernel⟩
theorem ok_terms_in {T : TR} (L : TPr K mg a d) (B : Bl mg) (hT : GoodT T) : FnOk P w K mg base CX0 1 (a 1) (d 1) ["shape", "held"] (spTI K T) := by
  refine L.fterms_in.ok scTermsIn (fun vs H Q E h => by obtain ⟨s, v, d, qs, e, rfl, _⟩ := h; rfl) (fun cdv A outer s H vs Q E hr h => ?_)
  obtain ⟨s0, v, d0, qs, e0, rfl, hv, hf, hl, q⟩ := h
  rw [LIM_eq] at hl
  refine ⟨_, pss_cons (ps_if (pt_cmpR op_eq (pv 0) pe_str (nomark _))
        (pss_one (ps_ret (pe_lst (pa_cons (pv 1) pa_nil))))
        pss_nil)
      (pss_cons (ps_if (PW.pt (pw_and (pt_cmpR op_eq (pv 0) pe_str (nomark _)) (pw_and1 (pt_cmpR op_notN (pv 1) pe_non (nomark _)))))
        (pss_one (ps_ret (pe_lst (pa_cons (pv 1) pa_nil))))
        pss_nil)
      (pss_cons (ps_if (pt_cmpR op_eq (pv 0) pe_str (nomark _))
        (pss_one (ps_ret (pe_callTy call_list_of (by rfl) B.list (by decide +kernel) (pa_cons (pv 1) pa_nil))))
        pss_nil)
      (pss_cons (ps_if (pt_cmpR op_eq (pv 0) pe_str (nomark _))
        (pss_one (ps_ret (pe_lc2 (own := [("pair", 2), ("part", 3)]) (g := gName 2) (tt := tYes) (g1 := gName 3) (tt1 := tYes) (wi1 := iTup K (tVar 2)) (te := tVar 3) (vs1 := [3]) (by rfl) scTermsIn.nd (pi_tup (pv 1)) (blkOk_by (own := [("pair", 2), ("part", 3)]) (N := ["shape", "held", "pair", "part", "member", "method"]) (sc := defScope (top 3)) (by decide +kernel)) (by decide) (fun _ _ _ _ _ => pg_name (i := 2) scTermsIn.nd rfl (.inl rfl)) (fun _ _ _ _ _ => pts_nil) (fun _ _ _ _ _ => pi_tup (pv 2)) (fun _ _ _ _ _ => pg_name (i := 3) scTermsIn.nd rfl (.inl rfl)) (fun _ _ _ _ _ => pts_nil) (fun _ _ _ _ _ => pv 3))))
        pss_nil)
      (pss_cons (ps_if (pt_cmpR op_eq (pv 0) pe_str (nomark _))
        (pss_one (ps_ret (pe_lc (own := [("member", 4)]) (g := gName 4) (tt := tYes) (te := tOp (rIxT K) (tVar 4) (tC (.int 2))) (by rfl) scTermsIn.nd (pi_tup (pv 1)) (blkOk_by (own := [("member", 4)]) (N := ["shape", "held", "pair", "part", "member", "method"]) (sc := defScope (top 3)) (by decide +kernel)) (fun _ _ _ _ _ => pg_name (i := 4) scTermsIn.nd rfl (.inl rfl)) (fun _ _ _ _ _ => pts_nil) (fun _ _ _ _ _ => (pe_ix ix_tup (pv 4) pe_int (fun _ _ => rfl))))))
        pss_nil)
      (pss_cons (ps_if (pt_cmpR op_eq (pv 0) pe_str (nomark _))
        (pss_one (ps_ret (pe_lc (own := [("method", 5)]) (g := gName 5) (tt := tYes) (te := tOp (rIxT K) (tVar 5) (tC (.int 1))) (by rfl) scTermsIn.nd (pi_tup (pv 1)) (blkOk_by (own := [("method", 5)]) (N := ["shape", "held", "pair", "part", "member", "method"]) (sc := defScope (top 3)) (by decide +kernel)) (fun _ _ _ _ _ => pg_name (i := 5) scTermsIn.nd rfl (.inl rfl)) (fun _ _ _ _ _ => pts_nil) (fun _ _ _ _ _ => (pe_ix ix_tup (pv 5) pe_int (fun _ _ => rfl))))))
        pss_nil)
      (pss_one (ps_ret (pe_lst pa_nil)))))))), ?_⟩
  cases hf with
  | offset =>
    refine ⟨_, rfl, rfl, _, rfl, ite2 (fun e => absurd e (by decide +kernel)) (fun _ => ?_)⟩
    refine ⟨_, rfl, rfl, _, rfl, ite2 (fun e => absurd e (by decide +kernel)) (fun _ => iteF ?_)⟩
    refine ⟨_, rfl, rfl, _, rfl, ite2 (fun e => absurd e (by decide +kernel)) (fun _ => ?_)⟩
    refine ⟨_, rfl, rfl, _, rfl, ite2 (fun e => absurd e (by decide +kernel)) (fun _ => ?_)⟩
    refine ⟨_, rfl, rfl, _, rfl, ite2 (fun e => absurd e (by decide +kernel)) (fun _ => ?_)⟩
    refine ⟨_, rfl, rfl, _, rfl, ite2 (fun e => absurd e (by decide +kernel)) (fun _ => ?_)⟩
    refine ⟨Nat.zero_le _, fun l nl => ?_⟩
    exact q _ l [] (same_upd nl) upd_same .nil
  | plain h =>
    refine ⟨_, rfl, rfl, _, rfl, ite2 (fun e => absurd e (by decide +kernel)) (fun _ => ?_)⟩
    refine ⟨_, rfl, rfl, _, rfl, ite2 (fun e => absurd e (by decide +kernel)) (fun _ => iteF ?_)⟩
    refine ⟨_, rfl, rfl, _, rfl, ite2 (fun e => absurd e (by decide +kernel)) (fun _ => ?_)⟩
    refine ⟨_, rfl, rfl, _, rfl, ite2 (fun e => absurd e (by decide +kernel)) (fun _ => ?_)⟩
    refine ⟨_, rfl, rfl, _, rfl, ite2 (fun e => absurd e (by decide +kernel)) (fun _ => ?_)⟩
    refine ⟨_, rfl, rfl, _, rfl, ite2 (fun e => absurd e (by decide +kernel)) (fun _ => ?_)⟩
    refine ⟨Nat.zero_le _, fun l nl => ?_⟩
    exact q _ l [] (same_upd nl) upd_same .nil
  | params =>
    refine ⟨_, rfl, rfl, _, rfl, ite2 (fun e => absurd e (by decide +kernel)) (fun _ => ?_)⟩
    refine ⟨_, rfl, rfl, _, rfl, ite2 (fun e => absurd e (by decide +kernel)) (fun _ => iteF ?_)⟩
    refine ⟨_, rfl, rfl, _, rfl, ite2 (fun e => absurd e (by decide +kernel)) (fun _ => ?_)⟩
    refine ⟨_, rfl, rfl, _, rfl, ite2 (fun e => absurd e (by decide +kernel)) (fun _ => ?_)⟩
    refine ⟨_, rfl, rfl, _, rfl, ite2 (fun e => absurd e (by decide +kernel)) (fun _ => ?_)⟩
    refine ⟨_, rfl, rfl, _, rfl, ite2 (fun e => absurd e (by decide +kernel)) (fun _ => ?_)⟩
    refine ⟨Nat.zero_le _, fun l nl => ?_⟩
    exact q _ l [] (same_upd nl) upd_same .nil
  | term h =>
    refine ⟨_, rfl, rfl, _, rfl, ite2 (fun _ => ?_) (fun e => absurd (by decide +kernel) e)⟩
    refine ⟨_, rfl, (by show 1 ≤ sizeLine; decide), fun l nl => ?_⟩
    exact q _ l _ (same_upd nl) upd_same (.cons (tp_same (same_upd nl) hv) .nil)
  | non =>
    cases tp_non hv
    refine ⟨_, rfl, rfl, _, rfl, ite2 (fun e => absurd e (by decide +kernel)) (fun _ => ?_)⟩
    refine ⟨_, rfl, rfl, _, rfl, ite2 (fun _ => ⟨_, rfl, rfl, _, rfl, ite2 (fun e => absurd e (by decide +kernel)) (fun _ => ?_)⟩) (fun e => absurd (by decide +kernel) e)⟩
    refine ⟨_, rfl, rfl, _, rfl, ite2 (fun e => absurd e (by decide +kernel)) (fun _ => ?_)⟩
    refine ⟨_, rfl, rfl, _, rfl, ite2 (fun e => absurd e (by decide +kernel)) (fun _ => ?_)⟩
    refine ⟨_, rfl, rfl, _, rfl, ite2 (fun e => absurd e (by decide +kernel)) (fun _ => ?_)⟩
    refine ⟨_, rfl, rfl, _, rfl, ite2 (fun e => absurd e (by decide +kernel)) (fun _ => ?_)⟩
    refine ⟨Nat.zero_le _, fun l nl => ?_⟩
    exact q _ l [] (same_upd nl) upd_same .nil
  | som h =>
    obtain ⟨⟨kk, fs, rfl⟩, _⟩ := hT h
    obtain ⟨qv, r, rfl, hs, ha⟩ := tp_head hv
    refine ⟨_, rfl, rfl, _, rfl, ite2 (fun e => absurd e (by decide +kernel)) (fun _ => ?_)⟩
    refine ⟨_, rfl, rfl, _, rfl, ite2 (fun _ => ⟨_, rfl, rfl, _, rfl, ite2 (fun _ => ?_) (fun e => absurd (by rfl) e)⟩) (fun e => absurd (by decide +kernel) e)⟩
    refine ⟨_, rfl, (by show 1 ≤ sizeLine; decide), fun l nl => ?_⟩
    exact q _ l _ (same_upd nl) upd_same (.cons (tp_same (same_upd nl) hv) .nil)
  | @terms ds _ es h =>
    obtain ⟨qd, xs, rfl, hs, hx⟩ := tp_t hv
    refine ⟨_, rfl, rfl, _, rfl, ite2 (fun e => absurd e (by decide +kernel)) (fun _ => ?_)⟩
    refine ⟨_, rfl, rfl, _, rfl, ite2 (fun e => absurd e (by decide +kernel)) (fun _ => iteF ?_)⟩
    refine ⟨_, rfl, rfl, _, rfl, ite2 (fun _ => ?_) (fun e => absurd (by decide +kernel) e)⟩
    refine ⟨_, rfl, qd, xs, rfl, .inr hs, fun l nl => ?_⟩
    have e1 : ∀ {ds qs es}, TL T ds qs es → qs.map (·.1) = ds := fun h => by
      induction h with
      | nil => rfl
      | cons h a ih => rw [List.map_cons, ih]
    rw [← e1 h] at hx
    exact q _ l xs (same_upd nl) upd_same (tpa_same (same_upd nl) hx)
  | @pairs ds _ es h =>
    obtain ⟨qd, xs, rfl, hs, hx⟩ := tp_t hv
    obtain ⟨hle, F, F0, Fn, Ff, Fl⟩ := h.qs
    have hxl := tpa_len hx
    refine ⟨_, rfl, rfl, _, rfl, ite2 (fun e => absurd e (by decide +kernel)) (fun _ => ?_)⟩
    refine ⟨_, rfl, rfl, _, rfl, ite2 (fun e => absurd e (by decide +kernel)) (fun _ => iteF ?_)⟩
    refine ⟨_, rfl, rfl, _, rfl, ite2 (fun e => absurd e (by decide +kernel)) (fun _ => ?_)⟩
    refine ⟨_, rfl, rfl, _, rfl, ite2 (fun _ => ?_) (fun e => absurd (by decide +kernel) e)⟩
    refine ⟨_, rfl, qd, rfl, ⟨_, hs⟩, fun Dl nD => lcG (walk_tup (K := K) (a := qd) (xs := xs)) (fun i H' => ∃ acc : List V, H' Dl = some (.lst acc) ∧ Same H H' ∧ TpAll K H' acc ((F i).map (·.1))) ?_ ?_ ?_ ?_⟩
    · exact ⟨[], upd_same, same_upd nD, by rw [F0]; exact .nil⟩
    · rintro i H' _ ⟨acc, hD, sm, ha⟩
      exact sqt_same sm hs
    · rintro i vx H' H2 hi ⟨acc, hD, sm, ha⟩ ⟨rfl, ev⟩
      obtain ⟨r, ⟨k, w1, e1, vv, w2, e2, d1, d2, t1, t2, rfl⟩, e5⟩ := Ff i (by omega)
      have hFl := (Fl (i + 1) (by omega)).1
      rw [e5, List.length_append] at hFl
      have hal : acc.length = (F i).length := by rw [tpa_len ha, List.length_map]
      have hFl2 : (F i).length + 2 ≤ qs.length := hFl
      obtain ⟨v9, ev9, hvv⟩ := tpa_at hx d1
      cases Option.some.inj (ev.symm.trans ev9)
      obtain ⟨qi, ys, rfl, hqi, hys⟩ := tp_t (tp_same sm hvv)
      obtain ⟨vk, ys, rfl, hvk, hys⟩ := tpa_c hys
      obtain ⟨vw, ys, rfl, hvw, hys⟩ := tpa_c hys
      cases tpa_n hys
      refine ⟨rfl, _, rfl, qi, rfl, ⟨_, hqi⟩, lcG (walk_tup (K := K) (a := qi) (xs := [vk, vw])) (fun j H3 => ∃ acc2 : List V, H3 Dl = some (.lst acc2) ∧ Same H H3 ∧ SqT K H3 qi [vk, vw] ∧ TpAll K H3 acc2 ((F i ++ [(k, w1), (vv, w2)].take j).map (·.1)) ∧ acc2.length = (F i).length + j ∧ Tp K H3 vk k ∧ Tp K H3 vw vv) ?_ ?_ ?_ ?_⟩
      · exact ⟨acc, hD, sm, hqi, by rw [List.take_zero, List.append_nil]; exact ha, hal, hvk, hvw⟩
      · rintro j H3 _ ⟨acc2, _, _, h3, _⟩
        exact h3
      · rintro j vx H3 H4 hj ⟨acc2, hD2, sm2, h3, h4, h5, h6, h7⟩ ⟨rfl, ev⟩
        have hj2 : j < 2 := hj
        refine ⟨rfl, _, rfl, acc2, hD2, (by rw [sizeLine_eq]; omega), acc2 ++ [vx], upd_same, ?_, sqt_keep keep_upd (.list hD2) h3, ?_, by rw [List.length_append, h5]; rfl, tp_lst hD2 h6, tp_lst hD2 h7⟩
        · exact fun x o e => by
            rw [upd_ne (fun z => by rw [z, nD] at e; cases e)]
            exact sm2 _ _ e
        · have hj3 : j = 0 ∨ j = 1 := by omega
          rcases hj3 with rfl | rfl
          · cases Option.some.inj ev
            have := tpa_lst (ys := acc2 ++ [vk]) hD2 (tpa_snoc h4 h6)
            rw [List.take_zero, List.append_nil] at this
            rw [List.map_append]
            exact this
          · cases Option.some.inj ev
            have := tpa_lst (ys := acc2 ++ [vw]) hD2 (tpa_snoc h4 h7)
            rw [List.map_append] at this ⊢
            rw [List.append_assoc] at this
            exact this
      · rintro H3 ⟨acc2, hD2, sm2, h3, h4, h5, h6, h7⟩
        exact ⟨acc2, hD2, sm2, by rw [e5]; exact h4⟩
    · rintro H' ⟨acc, hD, sm, ha⟩
      rw [hxl, Fn] at ha
      exact q _ Dl acc sm hD ha
  | @members ds _ es h =>
    obtain ⟨qd, xs, rfl, hs, hx⟩ := tp_t hv
    obtain ⟨hle, F, F0, Fn, Ff, Fl⟩ := h.qs
    have hxl := tpa_len hx
    refine ⟨_, rfl, rfl, _, rfl, ite2 (fun e => absurd e (by decide +kernel)) (fun _ => ?_)⟩
    refine ⟨_, rfl, rfl, _, rfl, ite2 (fun e => absurd e (by decide +kernel)) (fun _ => iteF ?_)⟩
    refine ⟨_, rfl, rfl, _, rfl, ite2 (fun e => absurd e (by decide +kernel)) (fun _ => ?_)⟩
    refine ⟨_, rfl, rfl, _, rfl, ite2 (fun e => absurd e (by decide +kernel)) (fun _ => ?_)⟩
    refine ⟨_, rfl, rfl, _, rfl, ite2 (fun _ => ?_) (fun e => absurd (by decide +kernel) e)⟩
    refine ⟨_, rfl, qd, rfl, ⟨_, hs⟩, fun Dl nD => lcG (walk_tup (K := K) (a := qd) (xs := xs)) (fun i H' => ∃ acc : List V, H' Dl = some (.lst acc) ∧ Same H H' ∧ TpAll K H' acc ((F i).map (·.1))) ?_ ?_ ?_ ?_⟩
    · exact ⟨[], upd_same, same_upd nD, by rw [F0]; exact .nil⟩
    · rintro i H' _ ⟨acc, hD, sm, ha⟩
      exact sqt_same sm hs
    · rintro i vx H' H2 hi ⟨acc, hD, sm, ha⟩ ⟨rfl, ev⟩
      obtain ⟨r, ⟨z, x, dd, w1, e1, d1, d2, t1, rfl⟩, e5⟩ := Ff i (by omega)
      have hFl := (Fl (i + 1) (by omega)).1
      rw [e5, List.length_append] at hFl
      have hal : acc.length = (F i).length := by rw [tpa_len ha, List.length_map]
      have hFl2 : (F i).length + 1 ≤ qs.length := hFl
      obtain ⟨v9, ev9, hvv⟩ := tpa_at hx d1
      cases Option.some.inj (ev.symm.trans ev9)
      obtain ⟨qi, ys, rfl, hqi, hys⟩ := tp_t (tp_same sm hvv)
      obtain ⟨u0, ys, rfl, hu0, hys⟩ := tpa_c hys
      obtain ⟨u1, ys, rfl, hu1, hys⟩ := tpa_c hys
      obtain ⟨vt, ys, rfl, hvt, hys⟩ := tpa_c hys
      cases tpa_n hys
      refine ⟨rfl, _, rfl, qi, _, _, vt, rfl, rfl, hqi, rfl, acc, hD, (by rw [sizeLine_eq]; omega), acc ++ [vt], upd_same, ?_, ?_⟩
      · exact fun x o e => by
          rw [upd_ne (fun z => by rw [z, nD] at e; cases e)]
          exact sm _ _ e
      · rw [e5, List.map_append]
        exact tpa_lst hD (tpa_snoc ha hvt)
    · rintro H' ⟨acc, hD, sm, ha⟩
      rw [hxl, Fn] at ha
      exact q _ Dl acc sm hD ha
  | @methods ds _ es h =>
    obtain ⟨qd, xs, rfl, hs, hx⟩ := tp_t hv
    obtain ⟨hle, F, F0, Fn, Ff, Fl⟩ := h.qs
    have hxl := tpa_len hx
    refine ⟨_, rfl, rfl, _, rfl, ite2 (fun e => absurd e (by decide +kernel)) (fun _ => ?_)⟩
    refine ⟨_, rfl, rfl, _, rfl, ite2 (fun e => absurd e (by decide +kernel)) (fun _ => iteF ?_)⟩
    refine ⟨_, rfl, rfl, _, rfl, ite2 (fun e => absurd e (by decide +kernel)) (fun _ => ?_)⟩
    refine ⟨_, rfl, rfl, _, rfl, ite2 (fun e => absurd e (by decide +kernel)) (fun _ => ?_)⟩
    refine ⟨_, rfl, rfl, _, rfl, ite2 (fun e => absurd e (by decide +kernel)) (fun _ => ?_)⟩
    refine ⟨_, rfl, rfl, _, rfl, ite2 (fun _ => ?_) (fun e => absurd (by decide +kernel) e)⟩
    refine ⟨_, rfl, qd, rfl, ⟨_, hs⟩, fun Dl nD => lcG (walk_tup (K := K) (a := qd) (xs := xs)) (fun i H' => ∃ acc : List V, H' Dl = some (.lst acc) ∧ Same H H' ∧ TpAll K H' acc ((F i).map (·.1))) ?_ ?_ ?_ ?_⟩
    · exact ⟨[], upd_same, same_upd nD, by rw [F0]; exact .nil⟩
    · rintro i H' _ ⟨acc, hD, sm, ha⟩
      exact sqt_same sm hs
    · rintro i vx H' H2 hi ⟨acc, hD, sm, ha⟩ ⟨rfl, ev⟩
      obtain ⟨r, ⟨x, dd, w1, e1, hxm, d1, d2, t1, rfl⟩, e5⟩ := Ff i (by omega)
      have hFl := (Fl (i + 1) (by omega)).1
      rw [e5, List.length_append] at hFl
      have hal : acc.length = (F i).length := by rw [tpa_len ha, List.length_map]
      have hFl2 : (F i).length + 1 ≤ qs.length := hFl
      obtain ⟨v9, ev9, hvv⟩ := tpa_at hx d1
      cases Option.some.inj (ev.symm.trans ev9)
      obtain ⟨qi, ys, rfl, hqi, hys⟩ := tp_t (tp_same sm hvv)
      obtain ⟨u1, ys, rfl, hu1, hys⟩ := tpa_c hys
      obtain ⟨vt, ys, rfl, hvt, hys⟩ := tpa_c hys
      cases tpa_n hys
      refine ⟨rfl, _, rfl, qi, _, _, vt, rfl, rfl, hqi, rfl, acc, hD, (by rw [sizeLine_eq]; omega), acc ++ [vt], upd_same, ?_, ?_⟩
      · exact fun x o e => by
          rw [upd_ne (fun z => by rw [z, nD] at e; cases e)]
          exact sm _ _ e
      · rw [e5, List.map_append]
        exact tpa_lst hD (tpa_snoc ha hvt)
    · rintro H' ⟨acc, hD, sm, ha⟩
      rw [hxl, Fn] at ha
      exact q _ Dl acc sm hD ha
end
end My
namespace My
open PySem L2 SX CwR RZ StX
open C8 (pss_cut tCut cutS_slice pe_gc)
theorem tpa_app {K : PySem.W.Frag} {H : Hp} : ∀ {vs us : List V} {ds es : List D}, TpAll K H vs ds → TpAll K H us es → TpAll K H (vs ++ us) (ds ++ es)
  | _, _, _, _, .nil, h => h
  | _, _, _, _, .cons h0 a, h => .cons h0 (tpa_app a h)
theorem cut_tl {v : V} {vs : List V} : ¬ (HT.sIx (v :: vs).length 0 (some 1) = 0 ∧ HT.sIx (v :: vs).length (v :: vs).length none = (v :: vs).length) ∧ cutV (v :: vs) (some 1) none = vs := by
  have e : HT.sIx (v :: vs).length 0 (some 1) = 1 := by
    have := HT.sIx_nat (v :: vs).length 0 1
    rw [List.length_cons] at this ⊢
    exact this.trans (by omega)
  refine ⟨fun h => by rw [e] at h; exact absurd h.1 (by decide), ?_⟩
  unfold cutV
  rw [e, HT.sIx_none]
  show (List.drop 1 (v :: vs)).take _ = vs
  rw [List.drop_one, List.tail_cons, List.length_cons, Nat.add_sub_cancel, List.take_length]
theorem lookup_mem {k : Str} {ss : List Sh} : ∀ {l : List (Str × List Sh)}, l.lookup k = some ss → (k, ss) ∈ l
  | [], h => by cases h
  | (k', s') :: r, h => by
    rw [List.lookup_cons] at h
    cases e : (k == k') with
    | true =>
      rw [e] at h
      cases h
      rw [eq_of_beq e]
      exact List.mem_cons_self ..
    | false =>
      rw [e] at h
      exact List.mem_cons_of_mem _ (lookup_mem h)
/-! ### parts_of -/
def spPO (K : PySem.W.Frag) (T : TR) : Sp := fun vs H Q _ => ∃ (v : V) (k : Str) (fs : List D) (ss : List Sh) (qs : List (D × List D)) (es : List D), vs = [v] ∧ Tp K H v (tup k fs) ∧ shpOf k = some ss ∧ FFs T ss fs qs es ∧ qs.length ≤ LIM ∧
  ∀ H' l xs, Same H H' → H l = none → H' l = some (.lst xs) → TpAll K H' xs (qs.map (·.1)) → Q (.ref l) H'
section
variable {P : Program} {ww : World} {K : PySem.W.Frag} {mg : Str → Option Value} {base : Heap} {a : Nat → Addr} {d : Nat → FuncData}
theorem scPartsOf : FnScope ["term", "parts", "shape", "held"] ["term"] (defScope (top 2)) := ⟨rfl, rfl, rfl, by decide +kernel, rfl, by decide +kernel, by decide +kernel⟩
theorem ok_parts_of {T : TR} {k : Nat} (L : TPr K mg a d) (Z : KSh K ww mg) (B : Bl mg) (hT : GoodT T) (G_ti : FnOk P ww K mg base CX0 k (a 1) (d 1) ["shape", "held"] (spTI K T)) : FnOk P ww K mg base CX0 (k + 1) (a 0) (d 0) ["term"] (spPO K T) := by
  refine L.fparts_of.ok scPartsOf (fun vs H Q E h => by obtain ⟨v, k, fs, ss, qs, es, rfl, _⟩ := h; rfl) (fun cdv A outer s H vs Q E hr h => ?_)
  obtain ⟨v, kd, fs, ss, qs, es, rfl, hv, hk, hf, hl, q⟩ := h
  rw [LIM_eq] at hl
  obtain ⟨aS, gS, hS⟩ := Z.ex
  obtain ⟨b, hD, hb⟩ := hS kd ss hk
  obtain ⟨q0, r, rfl, hs, ha⟩ := tp_head hv
  obtain ⟨l1, l2, F, F0, Fn, Ff, Fl⟩ := hf.qs
  have lr := tpa_len ha
  refine ⟨_, pss_cons (ps_set (i := 1) scPartsOf.nd rfl (.inl rfl) (pe_lst pa_nil))
      (pss_cons (ps_for PassesOwn.never rfl (pi_zipA (by rfl) B.zip (pa_cons (pe_ix ix_kdict (pe_gc (v := .ref aS) (by rfl) ⟨_, gS, rfl⟩) (pe_ix ix_tup (pv 0) pe_int (fun _ _ => rfl)) (fun _ _ => rfl)) (pa_cons (pe_slice sl_tup (pv 0) (po_some pe_int) po_none) pa_nil))) (pg_tup (by rfl) (pgs_cons (pg_name (i := 2) scPartsOf.nd rfl (.inl rfl)) (pgs_cons (pg_name (i := 3) scPartsOf.nd rfl (.inl rfl)) pgs_nil)))
        (pss_one (ps_expr (pe_bm PySem.F.plainAttrs_list PySem.F.slot_list_extend PySem.F.type_list_extend mt_extend (pv 1) (pa_cons (pe_call G_ti (hr.mono (by omega)) (by rfl) L.gterms_in L.fterms_in.kp L.bterms_in .nil pass0 (pa_cons (pv 2) (pa_cons (pv 3) pa_nil))) pa_nil)))))
      (pss_one (ps_ret (pv 1)))), ?_⟩
  refine ⟨Nat.zero_le _, fun l nl => ?_⟩
  have s1 : Same H (upd H l (.lst [])) := same_upd nl
  have hs1 := sqt_same s1 hs
  refine ⟨_, rfl, q0, _, _, (.str kd), rfl, rfl, hs1, atI_zero, aS, kd, (.ref b), rfl, rfl, hD, _, rfl, _, rfl, q0, _, rfl, hs1, cut_tl.1, fun z nz => ?_⟩
  rw [cut_tl.2]
  refine ⟨b, z, _, r, rfl, .inr ⟨hb _, sqt_new nz, for_zipT (xs := ss.map fun s => V.str s.s) (ys := r) (by rw [List.length_map]; omega) (fun i σ H' => ∃ (y2 y3 : Option V) (ps : List V), σ = [some (.ref q0), some (.ref l), y2, y3] ∧ Same H H' ∧ SqT K H' z r ∧ H' l = some (.lst ps) ∧ TpAll K H' ps ((F i).map (·.1))) ?_ ?_ ?_ ?_⟩⟩
  · exact ⟨none, none, [], rfl, Same.ly s1 nz, sqt_new nz, same_upd nz _ _ upd_same, by rw [F0]; exact .nil⟩
  · rintro i σ H' ⟨y2, y3, ps, rfl, sm, hz, _⟩
    exact ⟨hb _, hz⟩
  · rintro i x y Tz σ H' ex ey ⟨y2, y3, ps, rfl, sm, hz, hp, hpa⟩ nT
    have hi : i < ss.length := by
      have := (List.getElem?_eq_some_iff.mp ex).1
      rw [List.length_map] at this
      exact this
    obtain ⟨rq, ⟨sh, dd, ee, g1, g2, g3, g4⟩, g5⟩ := Ff i hi
    have hFl := (Fl (i + 1) (by omega)).1
    rw [g5, List.length_append] at hFl
    have hpl : ps.length = (F i).length := by rw [tpa_len hpa, List.length_map]
    obtain ⟨v9, ev9, hvv⟩ := tpa_at ha g2
    cases Option.some.inj (ey.symm.trans ev9)
    have exs : x = .str sh.s := by
      rw [List.getElem?_map, g1] at ex
      exact (Option.some.inj ex).symm
    subst exs
    have sT : Same H' (upd H' Tz (.tup [.str sh.s, y])) := same_upd nT
    have hp1 := sT _ _ hp
    refine ⟨_, _, rfl, sqt_new nT, rfl, _, _, rfl, _, _, rfl, rfl, ?_⟩
    refine ⟨_, rfl, .inl ⟨rfl, _, SqL.of hp1⟩, _, rfl, _, rfl, sh, y, dd, rq, ee, rfl, tp_same sT (tp_same sm hvv), g4, (by rw [LIM_eq]; omega), fun H3 l3 xs3 m3 h3 t3 => ?_⟩
    have hp3 := m3 _ _ hp1
    have hl3 : xs3.length = rq.length := by rw [tpa_len t3, List.length_map]
    refine ⟨l, l3, ps, xs3, rfl, rfl, hp3, h3, (by rw [sizeLine_eq]; omega), _, _, ps ++ xs3, rfl, ?_, sqt_keep keep_upd (.list hp3) (sqt_same m3 (sqt_same sT hz)), upd_same, ?_⟩
    · exact fun x o e => by
        rw [upd_ne (fun z => by rw [z, nl] at e; cases e)]
        exact m3 _ _ (sT _ _ (sm _ _ e))
    · rw [g5, List.map_append]
      exact tpa_lst hp3 (tpa_app (tpa_same m3 (tpa_same sT hpa)) t3)
  · rintro σ H' ⟨y2, y3, ps, rfl, sm, hz, hp, hpa⟩
    rw [List.length_map, Fn] at hpa
    exact ⟨_, rfl, q H' l ps sm nl hp hpa⟩
end
end My
namespace My
open PySem L2 SX CwR RZ StX
open C8 (pss_cut tCut cutS_slice pe_gc)
/-! ### rebuilt, with_parts, bare, without_offsets -/
def spWO (K : PySem.W.Frag) (T : TR) : Sp := fun vs H Q _ => ∃ (v : V) (d : D) (w : List D) (e : D), vs = [v] ∧ Tp K H v d ∧ T d w e ∧ w.length ≤ LIM ∧ ∀ H' v', Same H H' → Tp K H' v' e → Q v' H'
theorem shp_len : ∀ k ss, shpOf k = some ss → ss.length ≤ 6 := by
  intro k ss h
  have hm : (k, ss) ∈ shpT := lookup_mem h
  have : ∀ p ∈ shpT, p.2.length ≤ 6 := by decide +kernel
  exact this _ hm
/-- the rows of members: rebuilt, and bare -/
inductive MM : List D → List D → Prop
  | nil : MM [] []
  | cons {i x e ms es} : MM ms es → MM (.tuple [.int i, .str x, e] :: ms) (.tuple [.int 0, .str x, e] :: es)
def midRow : D → D → D
  | .tuple (o :: _), .tuple (_ :: r) => .tuple (o :: r)
  | _, e => e
def mids (ds es : List D) : List D := List.zipWith midRow ds es
theorem mids_mm {T : TR} : ∀ {ds : List D} {qs : List (D × List D)} {es : List D}, ML T ds qs es → MM (mids ds es) es
  | _, _, _, .nil => .nil
  | _, _, _, .cons _ h => .cons (mids_mm h)
theorem mids_len {T : TR} : ∀ {ds : List D} {qs : List (D × List D)} {es : List D}, ML T ds qs es → (mids ds es).length = ds.length
  | _, _, _, .nil => rfl
  | _, _, _, .cons _ h => congrArg (· + 1) (mids_len h)
theorem mids_at {ds es : List D} {i : Nat} {d e : D} (h : ds[i]? = some d) (g : es[i]? = some e) : (mids ds es)[i]? = some (midRow d e) := by
  unfold mids
  rw [List.getElem?_zipWith, h, g]
theorem MM.at : ∀ {ms es : List D} {i : Nat} {m : D}, MM ms es → ms[i]? = some m → ∃ o x e, m = .tuple [.int o, .str x, e] ∧ es[i]? = some (.tuple [.int 0, .str x, e])
  | _, _, 0, _, .cons h, e => by
    simp at e
    exact ⟨_, _, _, e.symm, rfl⟩
  | _, _, i + 1, _, .cons h, e => by
    simp at e
    obtain ⟨o, x, e', h1, h2⟩ := h.at e
    exact ⟨o, x, e', h1, by simpa using h2⟩
theorem MM.len : ∀ {ms es : List D}, MM ms es → ms.length = es.length
  | _, _, .nil => rfl
  | _, _, .cons h => congrArg (· + 1) h.len
/-- from what is rebuilt to what is bare -/
inductive MidR : Sh → D → D → Prop
  | offset {i} : MidR .offset (.int i) (.int 0)
  | same {s d} : s ≠ .offset → s ≠ .members → MidR s d d
  | members {ms es : List D} : MM ms es → MidR .members (.tuple ms) (.tuple es)
def MidRs (ss : List Sh) (ms es : List D) : Prop := ms.length = ss.length ∧ es.length = ss.length ∧ ∀ (i : Nat) (s : Sh), ss[i]? = some s → ∃ m e, ms[i]? = some m ∧ es[i]? = some e ∧ MidR s m e
def spRb (K : PySem.W.Frag) (T : TR) (f2 : Addr) : Sp := fun vs H Q _ => ∃ (s : Sh) (v : V) (d : D) (qs : List (D × List D)) (e : D), vs = [.str s.s, v, .ref f2] ∧ Tp K H v d ∧ FF T s d qs e ∧ (flat qs).length ≤ LIM ∧ ∀ H' v' m, Same H H' → Tp K H' v' m → MidR s m e → Q v' H'
section
variable {P : Program} {ww : World} {K : PySem.W.Frag} {mg : Str → Option Value} {base : Heap} {a : Nat → Addr} {d : Nat → FuncData}
theorem scRebuilt : FnScope ["shape", "held", "action", "part", "key", "value", "offset", "name", "member", "method"] ["shape", "held", "action"] (defScope (top 5)) := ⟨rfl, rfl, rfl, by decide +kernel, rfl, by decide +kernel, by decide +kernel⟩
theorem ok_rebuilt {T : TR} {k : Nat} (L : TPr K mg a d) (B : Bl mg) (hT : GoodT T) (G_wo : FnOk P ww K mg base CX0 k (a 2) (d 2) ["term"] (spWO K T)) : FnOk P ww K mg base CX0 (k + 1) (a 5) (d 5) ["shape", "held", "action"] (spRb K T (a 2)) := by
  refine L.frebuilt.ok scRebuilt (fun vs H Q E h => by obtain ⟨s, v, d, qs, e, rfl, _⟩ := h; rfl) (fun cdv A outer s H vs Q E hr h => ?_)
  obtain ⟨s0, v, d0, qs, e0, rfl, hv, hf, hl, q⟩ := h
  rw [LIM_eq] at hl
  have hl2 := hf.len hT
  refine ⟨_, pss_cons (ps_if (PW.pt (pw_or (pt_cmpR op_eq (pv 0) pe_str (nomark _)) (pw_or1 (PW.pt (pw_and (pt_cmpR op_eq (pv 0) pe_str (nomark _)) (pw_and1 (pt_cmpR op_notN (pv 1) pe_non (nomark _)))))))) (pss_one (ps_ret (pe_callL (i := 2) G_wo (hr.mono (by omega)) rfl (by first | exact Or.inl rfl | exact Or.inr (Or.inl rfl) | exact Or.inr (Or.inr rfl)) L.fwithout_offsets.kp L.bwithout_offsets .nil pass0 (pa_cons (pv 1) pa_nil)))) pss_nil)
      (pss_cons (ps_if (pt_cmpR op_eq (pv 0) pe_str (nomark _))
        (pss_one (ps_ret (pe_callTy call_tuple_of (by rfl) B.tuple (by decide +kernel) (pa_cons (pe_lc (own := [("part", 3)]) (g := gName 3) (tt := tYes) (by rfl) scRebuilt.nd (pi_tup (pv 1)) (blkOk_by (own := [("part", 3)]) (N := ["shape", "held", "action", "part", "key", "value", "offset", "name", "member", "method"]) (sc := defScope (top 5)) (by decide +kernel)) (fun _ _ _ _ _ => pg_name (i := 3) scRebuilt.nd rfl (.inl rfl)) (fun _ _ _ _ _ => pts_nil) (fun _ _ _ _ _ => (pe_callL (i := 2) G_wo (hr.mono (by omega)) rfl (by first | exact Or.inl rfl | exact Or.inr (Or.inl rfl) | exact Or.inr (Or.inr rfl)) L.fwithout_offsets.kp L.bwithout_offsets .nil pass0 (pa_cons (pv 3) pa_nil)))) pa_nil))))
        pss_nil)
      (pss_cons (ps_if (pt_cmpR op_eq (pv 0) pe_str (nomark _))
        (pss_one (ps_ret (pe_callTy call_tuple_of (by rfl) B.tuple (by decide +kernel) (pa_cons (pe_lc (own := [("key", 4), ("value", 5)]) (g := gTup K 2 (gCons (gName 4) (gCons (gName 5) gNil))) (tt := tYes) (by rfl) scRebuilt.nd (pi_tup (pv 1)) (blkOk_by (own := [("key", 4), ("value", 5)]) (N := ["shape", "held", "action", "part", "key", "value", "offset", "name", "member", "method"]) (sc := defScope (top 5)) (by decide +kernel)) (fun _ _ _ _ _ => pg_tup (by rfl) (pgs_cons (pg_name (i := 4) scRebuilt.nd rfl (.inl rfl)) (pgs_cons (pg_name (i := 5) scRebuilt.nd rfl (.inl rfl)) pgs_nil))) (fun _ _ _ _ _ => pts_nil) (fun _ _ _ _ _ => (pe_tup (pa_cons (pe_callL (i := 2) G_wo (hr.mono (by omega)) rfl (by first | exact Or.inl rfl | exact Or.inr (Or.inl rfl) | exact Or.inr (Or.inr rfl)) L.fwithout_offsets.kp L.bwithout_offsets .nil pass0 (pa_cons (pv 4) pa_nil)) (pa_cons (pe_callL (i := 2) G_wo (hr.mono (by omega)) rfl (by first | exact Or.inl rfl | exact Or.inr (Or.inl rfl) | exact Or.inr (Or.inr rfl)) L.fwithout_offsets.kp L.bwithout_offsets .nil pass0 (pa_cons (pv 5) pa_nil)) pa_nil))))) pa_nil))))
        pss_nil)
      (pss_cons (ps_if (pt_cmpR op_eq (pv 0) pe_str (nomark _))
        (pss_one (ps_ret (pe_callTy call_tuple_of (by rfl) B.tuple (by decide +kernel) (pa_cons (pe_lc (own := [("offset", 6), ("name", 7), ("member", 8)]) (g := gTup K 3 (gCons (gName 6) (gCons (gName 7) (gCons (gName 8) gNil)))) (tt := tYes) (by rfl) scRebuilt.nd (pi_tup (pv 1)) (blkOk_by (own := [("offset", 6), ("name", 7), ("member", 8)]) (N := ["shape", "held", "action", "part", "key", "value", "offset", "name", "member", "method"]) (sc := defScope (top 5)) (by decide +kernel)) (fun _ _ _ _ _ => pg_tup (by rfl) (pgs_cons (pg_name (i := 6) scRebuilt.nd rfl (.inl rfl)) (pgs_cons (pg_name (i := 7) scRebuilt.nd rfl (.inl rfl)) (pgs_cons (pg_name (i := 8) scRebuilt.nd rfl (.inl rfl)) pgs_nil)))) (fun _ _ _ _ _ => pts_nil) (fun _ _ _ _ _ => (pe_tup (pa_cons (pv 6) (pa_cons (pv 7) (pa_cons (pe_callL (i := 2) G_wo (hr.mono (by omega)) rfl (by first | exact Or.inl rfl | exact Or.inr (Or.inl rfl) | exact Or.inr (Or.inr rfl)) L.fwithout_offsets.kp L.bwithout_offsets .nil pass0 (pa_cons (pv 8) pa_nil)) pa_nil)))))) pa_nil))))
        pss_nil)
      (pss_cons (ps_if (pt_cmpR op_eq (pv 0) pe_str (nomark _))
        (pss_one (ps_ret (pe_callTy call_tuple_of (by rfl) B.tuple (by decide +kernel) (pa_cons (pe_lc (own := [("name", 7), ("method", 9)]) (g := gTup K 2 (gCons (gName 7) (gCons (gName 9) gNil))) (tt := tYes) (by rfl) scRebuilt.nd (pi_tup (pv 1)) (blkOk_by (own := [("name", 7), ("method", 9)]) (N := ["shape", "held", "action", "part", "key", "value", "offset", "name", "member", "method"]) (sc := defScope (top 5)) (by decide +kernel)) (fun _ _ _ _ _ => pg_tup (by rfl) (pgs_cons (pg_name (i := 7) scRebuilt.nd rfl (.inl rfl)) (pgs_cons (pg_name (i := 9) scRebuilt.nd rfl (.inl rfl)) pgs_nil))) (fun _ _ _ _ _ => pts_nil) (fun _ _ _ _ _ => (pe_tup (pa_cons (pv 7) (pa_cons (pe_callL (i := 2) G_wo (hr.mono (by omega)) rfl (by first | exact Or.inl rfl | exact Or.inr (Or.inl rfl) | exact Or.inr (Or.inr rfl)) L.fwithout_offsets.kp L.bwithout_offsets .nil pass0 (pa_cons (pv 9) pa_nil)) pa_nil))))) pa_nil))))
        pss_nil)
      (pss_one (ps_ret (pv 1))))))), ?_⟩
  cases hf with
  | offset =>
    refine ⟨_, rfl, rfl, _, rfl, ite2 (fun e => absurd e (by decide +kernel)) (fun _ => ?_)⟩
    refine ⟨_, rfl, rfl, _, rfl, ite2 (fun e => absurd e (by decide +kernel)) (fun _ => iteF ?_)⟩
    refine ⟨_, rfl, rfl, _, rfl, ite2 (fun e => absurd e (by decide +kernel)) (fun _ => ?_)⟩
    refine ⟨_, rfl, rfl, _, rfl, ite2 (fun e => absurd e (by decide +kernel)) (fun _ => ?_)⟩
    refine ⟨_, rfl, rfl, _, rfl, ite2 (fun e => absurd e (by decide +kernel)) (fun _ => ?_)⟩
    refine ⟨_, rfl, rfl, _, rfl, ite2 (fun e => absurd e (by decide +kernel)) (fun _ => ?_)⟩
    refine ⟨_, rfl, ?_⟩
    exact q H _ _ Same.rf hv .offset
  | plain h =>
    refine ⟨_, rfl, rfl, _, rfl, ite2 (fun e => absurd e (by decide +kernel)) (fun _ => ?_)⟩
    refine ⟨_, rfl, rfl, _, rfl, ite2 (fun e => absurd e (by decide +kernel)) (fun _ => iteF ?_)⟩
    refine ⟨_, rfl, rfl, _, rfl, ite2 (fun e => absurd e (by decide +kernel)) (fun _ => ?_)⟩
    refine ⟨_, rfl, rfl, _, rfl, ite2 (fun e => absurd e (by decide +kernel)) (fun _ => ?_)⟩
    refine ⟨_, rfl, rfl, _, rfl, ite2 (fun e => absurd e (by decide +kernel)) (fun _ => ?_)⟩
    refine ⟨_, rfl, rfl, _, rfl, ite2 (fun e => absurd e (by decide +kernel)) (fun _ => ?_)⟩
    refine ⟨_, rfl, ?_⟩
    exact q H _ _ Same.rf hv (.same (fun z => by cases z) (fun z => by cases z))
  | params =>
    refine ⟨_, rfl, rfl, _, rfl, ite2 (fun e => absurd e (by decide +kernel)) (fun _ => ?_)⟩
    refine ⟨_, rfl, rfl, _, rfl, ite2 (fun e => absurd e (by decide +kernel)) (fun _ => iteF ?_)⟩
    refine ⟨_, rfl, rfl, _, rfl, ite2 (fun e => absurd e (by decide +kernel)) (fun _ => ?_)⟩
    refine ⟨_, rfl, rfl, _, rfl, ite2 (fun e => absurd e (by decide +kernel)) (fun _ => ?_)⟩
    refine ⟨_, rfl, rfl, _, rfl, ite2 (fun e => absurd e (by decide +kernel)) (fun _ => ?_)⟩
    refine ⟨_, rfl, rfl, _, rfl, ite2 (fun e => absurd e (by decide +kernel)) (fun _ => ?_)⟩
    refine ⟨_, rfl, ?_⟩
    exact q H _ _ Same.rf hv (.same (fun z => by cases z) (fun z => by cases z))
  | term h =>
    refine ⟨_, rfl, rfl, _, rfl, ite2 (fun _ => ?_) (fun e => absurd (by decide +kernel) e)⟩
    refine ⟨rfl, _, rfl, _, _, _, _, rfl, hv, h, ?_, fun H1 v1 m1 t1 => q H1 v1 _ m1 t1 (.same (fun z => by cases z) (fun z => by cases z))⟩
    rw [flat_cons, flat_nil, List.append_nil] at hl
    rw [LIM_eq]
    exact hl
  | non =>
    cases tp_non hv
    refine ⟨_, rfl, rfl, _, rfl, ite2 (fun e => absurd e (by decide +kernel)) (fun _ => ?_)⟩
    refine ⟨_, rfl, rfl, _, rfl, ite2 (fun _ => ⟨_, rfl, rfl, _, rfl, ite2 (fun e => absurd e (by decide +kernel)) (fun _ => ?_)⟩) (fun e => absurd (by decide +kernel) e)⟩
    refine ⟨_, rfl, rfl, _, rfl, ite2 (fun e => absurd e (by decide +kernel)) (fun _ => ?_)⟩
    refine ⟨_, rfl, rfl, _, rfl, ite2 (fun e => absurd e (by decide +kernel)) (fun _ => ?_)⟩
    refine ⟨_, rfl, rfl, _, rfl, ite2 (fun e => absurd e (by decide +kernel)) (fun _ => ?_)⟩
    refine ⟨_, rfl, rfl, _, rfl, ite2 (fun e => absurd e (by decide +kernel)) (fun _ => ?_)⟩
    refine ⟨_, rfl, ?_⟩
    exact q H _ _ Same.rf hv (.same (fun z => by cases z) (fun z => by cases z))
  | som h =>
    obtain ⟨⟨kk, fs, rfl⟩, _⟩ := hT h
    have hv0 := hv
    obtain ⟨qv, r, rfl, hs, ha⟩ := tp_head hv
    refine ⟨_, rfl, rfl, _, rfl, ite2 (fun e => absurd e (by decide +kernel)) (fun _ => ?_)⟩
    refine ⟨_, rfl, rfl, _, rfl, ite2 (fun _ => ⟨_, rfl, rfl, _, rfl, ite2 (fun _ => ?_) (fun e => absurd (by rfl) e)⟩) (fun e => absurd (by decide +kernel) e)⟩
    refine ⟨rfl, _, rfl, _, _, _, _, rfl, hv0, h, ?_, fun H1 v1 m1 t1 => q H1 v1 _ m1 t1 (.same (fun z => by cases z) (fun z => by cases z))⟩
    rw [flat_cons, flat_nil, List.append_nil] at hl
    rw [LIM_eq]
    exact hl
  | @terms ds _ es h =>
    obtain ⟨qd, xs, rfl, hs, hx⟩ := tp_t hv
    obtain ⟨hle, F, F0, Fn, Ff, Fl⟩ := h.qs
    have hxl := tpa_len hx
    have hdl := (h.len hT).2
    refine ⟨_, rfl, rfl, _, rfl, ite2 (fun e => absurd e (by decide +kernel)) (fun _ => ?_)⟩
    refine ⟨_, rfl, rfl, _, rfl, ite2 (fun e => absurd e (by decide +kernel)) (fun _ => iteF ?_)⟩
    refine ⟨_, rfl, rfl, _, rfl, ite2 (fun _ => ?_) (fun e => absurd (by decide +kernel) e)⟩
    refine ⟨_, rfl, qd, rfl, ⟨_, hs⟩, fun Dl nD => lcG (walk_tup (K := K) (a := qd) (xs := xs)) (fun i H' => ∃ acc : List V, H' Dl = some (.lst acc) ∧ Same H H' ∧ acc.length = i ∧ TpAll K H' acc (es.take i)) ?_ ?_ ?_ ?_⟩
    · exact ⟨[], upd_same, same_upd nD, rfl, .nil⟩
    · rintro i H' _ ⟨acc, hD, sm, ha⟩
      exact sqt_same sm hs
    · rintro i vx H' H2 hi ⟨acc, hD, sm, hal, ha⟩ ⟨rfl, ev⟩
      have hFl := (Fl (i + 1) (by omega)).2
      have hsz : acc.length < sizeLine := by
        rw [sizeLine_eq]
        omega
      obtain ⟨r, ⟨dd, w1, e1, d1, d2, t1, rfl⟩, e5⟩ := Ff i (by omega)
      rw [e5, flat_app, flat_cons, flat_nil, List.append_nil, List.length_append] at hFl
      obtain ⟨v9, ev9, hvv⟩ := tpa_at hx d1
      cases Option.some.inj (ev.symm.trans ev9)
      refine ⟨rfl, rfl, _, rfl, _, _, _, _, rfl, tp_same sm hvv, t1, (by rw [LIM_eq]; omega), fun H3 v3 m3 h3 => ?_⟩
      have hD3 := m3 _ _ hD
      refine ⟨acc, hD3, hsz, acc ++ [v3], upd_same, ?_, by rw [List.length_append, hal]; rfl, ?_⟩
      · exact fun x o e => by
          rw [upd_ne (fun z => by rw [z, nD] at e; cases e)]
          exact m3 _ _ (sm _ _ e)
      · rw [take_snoc d2]
        exact tpa_lst hD3 (tpa_snoc (tpa_same m3 ha) h3)
    · rintro H' ⟨acc, hD, sm, hal, ha⟩
      rw [hxl, ← hle, List.take_length] at ha
      refine ⟨Dl, acc, rfl, .inl ⟨SqL.of hD, fun y ny => ?_⟩⟩
      exact q _ _ _ (Same.ly sm ny) (tp_new ny ha) (.same (fun z => by cases z) (fun z => by cases z))
  | @pairs ds _ es h =>
    obtain ⟨qd, xs, rfl, hs, hx⟩ := tp_t hv
    obtain ⟨hle, F, F0, Fn, Ff, Fl⟩ := h.qs
    have hxl := tpa_len hx
    have hdl := (h.len hT).2
    refine ⟨_, rfl, rfl, _, rfl, ite2 (fun e => absurd e (by decide +kernel)) (fun _ => ?_)⟩
    refine ⟨_, rfl, rfl, _, rfl, ite2 (fun e => absurd e (by decide +kernel)) (fun _ => iteF ?_)⟩
    refine ⟨_, rfl, rfl, _, rfl, ite2 (fun e => absurd e (by decide +kernel)) (fun _ => ?_)⟩
    refine ⟨_, rfl, rfl, _, rfl, ite2 (fun _ => ?_) (fun e => absurd (by decide +kernel) e)⟩
    refine ⟨_, rfl, qd, rfl, ⟨_, hs⟩, fun Dl nD => lcG (walk_tup (K := K) (a := qd) (xs := xs)) (fun i H' => ∃ acc : List V, H' Dl = some (.lst acc) ∧ Same H H' ∧ acc.length = i ∧ TpAll K H' acc (es.take i)) ?_ ?_ ?_ ?_⟩
    · exact ⟨[], upd_same, same_upd nD, rfl, .nil⟩
    · rintro i H' _ ⟨acc, hD, sm, ha⟩
      exact sqt_same sm hs
    · rintro i vx H' H2 hi ⟨acc, hD, sm, hal, ha⟩ ⟨rfl, ev⟩
      have hFl := (Fl (i + 1) (by omega)).2
      have hsz : acc.length < sizeLine := by
        rw [sizeLine_eq]
        omega
      obtain ⟨r, ⟨k, w1, e1, vv, w2, e2, d1, d2, t1, t2, rfl⟩, e5⟩ := Ff i (by omega)
      rw [e5, flat_app, flat_cons, flat_cons, flat_nil, List.append_nil, List.length_append, List.length_append] at hFl
      obtain ⟨v9, ev9, hvv⟩ := tpa_at hx d1
      cases Option.some.inj (ev.symm.trans ev9)
      obtain ⟨qi, ys, rfl, hqi, hys⟩ := tp_t (tp_same sm hvv)
      obtain ⟨vk, ys, rfl, hvk, hys⟩ := tpa_c hys
      obtain ⟨vw, ys, rfl, hvw, hys⟩ := tpa_c hys
      cases tpa_n hys
      refine ⟨_, _, rfl, hqi, rfl, _, _, rfl, _, _, rfl, rfl, rfl, rfl, _, rfl, _, _, _, _, rfl, hvk, t1, (by rw [LIM_eq]; omega), fun H3 v3 m3 h3 => ?_⟩
      refine ⟨rfl, _, rfl, _, _, _, _, rfl, tp_same m3 hvw, t2, (by rw [LIM_eq]; omega), fun H4 v4 m4 h4 => ?_⟩
      refine ⟨(by show 2 ≤ sizeLine; decide), fun z nz => ?_⟩
      have m5 := same_upd (o := HO.tup [v3, v4]) nz
      have hD3 := m5 _ _ (m4 _ _ (m3 _ _ hD))
      refine ⟨acc, hD3, hsz, acc ++ [.ref z], upd_same, ?_, by rw [List.length_append, hal]; rfl, ?_⟩
      · exact fun x o e => by
          rw [upd_ne (fun z => by rw [z, nD] at e; cases e)]
          exact m5 _ _ (m4 _ _ (m3 _ _ (sm _ _ e)))
      · rw [take_snoc d2]
        exact tpa_lst hD3 (tpa_snoc (tpa_same m5 (tpa_same m4 (tpa_same m3 ha))) (tp_new nz (.cons (tp_same m4 h3) (.cons h4 .nil))))
    · rintro H' ⟨acc, hD, sm, hal, ha⟩
      rw [hxl, ← hle, List.take_length] at ha
      refine ⟨Dl, acc, rfl, .inl ⟨SqL.of hD, fun y ny => ?_⟩⟩
      exact q _ _ _ (Same.ly sm ny) (tp_new ny ha) (.same (fun z => by cases z) (fun z => by cases z))
  | @members ds _ es h =>
    obtain ⟨qd, xs, rfl, hs, hx⟩ := tp_t hv
    obtain ⟨hle, F, F0, Fn, Ff, Fl⟩ := h.qs
    have hxl := tpa_len hx
    have hdl := (h.len hT).2
    refine ⟨_, rfl, rfl, _, rfl, ite2 (fun e => absurd e (by decide +kernel)) (fun _ => ?_)⟩
    refine ⟨_, rfl, rfl, _, rfl, ite2 (fun e => absurd e (by decide +kernel)) (fun _ => iteF ?_)⟩
    refine ⟨_, rfl, rfl, _, rfl, ite2 (fun e => absurd e (by decide +kernel)) (fun _ => ?_)⟩
    refine ⟨_, rfl, rfl, _, rfl, ite2 (fun e => absurd e (by decide +kernel)) (fun _ => ?_)⟩
    refine ⟨_, rfl, rfl, _, rfl, ite2 (fun _ => ?_) (fun e => absurd (by decide +kernel) e)⟩
    refine ⟨_, rfl, qd, rfl, ⟨_, hs⟩, fun Dl nD => lcG (walk_tup (K := K) (a := qd) (xs := xs)) (fun i H' => ∃ acc : List V, H' Dl = some (.lst acc) ∧ Same H H' ∧ acc.length = i ∧ TpAll K H' acc ((mids ds es).take i)) ?_ ?_ ?_ ?_⟩
    · exact ⟨[], upd_same, same_upd nD, rfl, .nil⟩
    · rintro i H' _ ⟨acc, hD, sm, ha⟩
      exact sqt_same sm hs
    · rintro i vx H' H2 hi ⟨acc, hD, sm, hal, ha⟩ ⟨rfl, ev⟩
      have hFl := (Fl (i + 1) (by omega)).2
      have hsz : acc.length < sizeLine := by
        rw [sizeLine_eq]
        omega
      obtain ⟨r, ⟨zz, x, dd, w1, e1, d1, d2, t1, rfl⟩, e5⟩ := Ff i (by omega)
      rw [e5, flat_app, flat_cons, flat_nil, List.append_nil, List.length_append] at hFl
      obtain ⟨v9, ev9, hvv⟩ := tpa_at hx d1
      cases Option.some.inj (ev.symm.trans ev9)
      obtain ⟨qi, ys, rfl, hqi, hys⟩ := tp_t (tp_same sm hvv)
      obtain ⟨u0, ys, rfl, hu0, hys⟩ := tpa_c hys
      obtain ⟨u1, ys, rfl, hu1, hys⟩ := tpa_c hys
      obtain ⟨vt, ys, rfl, hvt, hys⟩ := tpa_c hys
      cases tpa_n hys
      refine ⟨_, _, rfl, hqi, rfl, _, _, rfl, _, _, rfl, _, _, rfl, rfl, rfl, _, rfl, _, rfl, rfl, _, rfl, _, _, _, _, rfl, hvt, t1, (by rw [LIM_eq]; omega), fun H3 v3 m3 h3 => ?_⟩
      refine ⟨(by show 3 ≤ sizeLine; decide), fun z nz => ?_⟩
      have m5 := same_upd (o := HO.tup [u0, u1, v3]) nz
      have hD3 := m5 _ _ (m3 _ _ hD)
      refine ⟨acc, hD3, hsz, acc ++ [.ref z], upd_same, ?_, by rw [List.length_append, hal]; rfl, ?_⟩
      · exact fun x o e => by
          rw [upd_ne (fun z => by rw [z, nD] at e; cases e)]
          exact m5 _ _ (m3 _ _ (sm _ _ e))
      · rw [take_snoc (mids_at d1 d2)]
        exact tpa_lst hD3 (tpa_snoc (tpa_same m5 (tpa_same m3 ha)) (tp_new nz (.cons (tp_same m3 hu0) (.cons (tp_same m3 hu1) (.cons h3 .nil)))))
    · rintro H' ⟨acc, hD, sm, hal, ha⟩
      rw [hxl, ← mids_len h, List.take_length] at ha
      refine ⟨Dl, acc, rfl, .inl ⟨SqL.of hD, fun y ny => ?_⟩⟩
      exact q _ _ _ (Same.ly sm ny) (tp_new ny ha) (.members (mids_mm h))
  | @methods ds _ es h =>
    obtain ⟨qd, xs, rfl, hs, hx⟩ := tp_t hv
    obtain ⟨hle, F, F0, Fn, Ff, Fl⟩ := h.qs
    have hxl := tpa_len hx
    have hdl := (h.len hT).2
    refine ⟨_, rfl, rfl, _, rfl, ite2 (fun e => absurd e (by decide +kernel)) (fun _ => ?_)⟩
    refine ⟨_, rfl, rfl, _, rfl, ite2 (fun e => absurd e (by decide +kernel)) (fun _ => iteF ?_)⟩
    refine ⟨_, rfl, rfl, _, rfl, ite2 (fun e => absurd e (by decide +kernel)) (fun _ => ?_)⟩
    refine ⟨_, rfl, rfl, _, rfl, ite2 (fun e => absurd e (by decide +kernel)) (fun _ => ?_)⟩
    refine ⟨_, rfl, rfl, _, rfl, ite2 (fun e => absurd e (by decide +kernel)) (fun _ => ?_)⟩
    refine ⟨_, rfl, rfl, _, rfl, ite2 (fun _ => ?_) (fun e => absurd (by decide +kernel) e)⟩
    refine ⟨_, rfl, qd, rfl, ⟨_, hs⟩, fun Dl nD => lcG (walk_tup (K := K) (a := qd) (xs := xs)) (fun i H' => ∃ acc : List V, H' Dl = some (.lst acc) ∧ Same H H' ∧ acc.length = i ∧ TpAll K H' acc (es.take i)) ?_ ?_ ?_ ?_⟩
    · exact ⟨[], upd_same, same_upd nD, rfl, .nil⟩
    · rintro i H' _ ⟨acc, hD, sm, ha⟩
      exact sqt_same sm hs
    · rintro i vx H' H2 hi ⟨acc, hD, sm, hal, ha⟩ ⟨rfl, ev⟩
      have hFl := (Fl (i + 1) (by omega)).2
      have hsz : acc.length < sizeLine := by
        rw [sizeLine_eq]
        omega
      obtain ⟨r, ⟨x, dd, w1, e1, hxm, d1, d2, t1, rfl⟩, e5⟩ := Ff i (by omega)
      rw [e5, flat_app, flat_cons, flat_nil, List.append_nil, List.length_append] at hFl
      obtain ⟨v9, ev9, hvv⟩ := tpa_at hx d1
      cases Option.some.inj (ev.symm.trans ev9)
      obtain ⟨qi, ys, rfl, hqi, hys⟩ := tp_t (tp_same sm hvv)
      obtain ⟨u1, ys, rfl, hu1, hys⟩ := tpa_c hys
      obtain ⟨vt, ys, rfl, hvt, hys⟩ := tpa_c hys
      cases tpa_n hys
      refine ⟨_, _, rfl, hqi, rfl, _, _, rfl, _, _, rfl, rfl, rfl, _, rfl, rfl, _, rfl, _, _, _, _, rfl, hvt, t1, (by rw [LIM_eq]; omega), fun H3 v3 m3 h3 => ?_⟩
      refine ⟨(by show 2 ≤ sizeLine; decide), fun z nz => ?_⟩
      have m5 := same_upd (o := HO.tup [u1, v3]) nz
      have hD3 := m5 _ _ (m3 _ _ hD)
      refine ⟨acc, hD3, hsz, acc ++ [.ref z], upd_same, ?_, by rw [List.length_append, hal]; rfl, ?_⟩
      · exact fun x o e => by
          rw [upd_ne (fun z => by rw [z, nD] at e; cases e)]
          exact m5 _ _ (m3 _ _ (sm _ _ e))
      · rw [take_snoc d2]
        exact tpa_lst hD3 (tpa_snoc (tpa_same m5 (tpa_same m3 ha)) (tp_new nz (.cons (tp_same m3 hu1) (.cons h3 .nil))))
    · rintro H' ⟨acc, hD, sm, hal, ha⟩
      rw [hxl, ← hle, List.take_length] at ha
      refine ⟨Dl, acc, rfl, .inl ⟨SqL.of hD, fun y ny => ?_⟩⟩
      exact q _ _ _ (Same.ly sm ny) (tp_new ny ha) (.same (fun z => by cases z) (fun z => by cases z))
end
end My
namespace My
open PySem L2 SX CwR RZ StX
open C8 (pss_cut tCut cutS_slice pe_gc)
def spWP (K : PySem.W.Frag) (n : Nat) (f2 : Addr) : Sp := fun vs H Q _ => ∃ (v : V) (kd : Str) (fs : List D) (ss : List Sh) (qs : List (D × List D)) (es : List D), vs = [v, .ref f2] ∧ Tp K H v (tup kd fs) ∧ shpOf kd = some ss ∧ FFs (TT n) ss fs qs es ∧ (flat qs).length + 1 ≤ LIM ∧ ∀ H' v' ms, Same H H' → Tp K H' v' (tup kd ms) → MidRs ss ms es → Q v' H'
def spBare (K : PySem.W.Frag) : Sp := fun vs H Q _ => ∃ (s : Sh) (v : V) (m e : D), vs = [.str s.s, v] ∧ Tp K H v m ∧ MidR s m e ∧ (∀ ms, m = .tuple ms → s = .members → ms.length ≤ LIM) ∧ ∀ H' v', Same H H' → Tp K H' v' e → Q v' H'
section
variable {P : Program} {ww : World} {K : PySem.W.Frag} {mg : Str → Option Value} {base : Heap} {a : Nat → Addr} {d : Nat → FuncData}
theorem scWithParts : FnScope ["term", "action", "held", "shape", "part"] ["term", "action"] (defScope (top 4)) := ⟨rfl, rfl, rfl, by decide +kernel, rfl, by decide +kernel, by decide +kernel⟩
theorem ok_with_parts {n k : Nat} (L : TPr K mg a d) (Z : KSh K ww mg) (B : Bl mg) (G_rb : FnOk P ww K mg base CX0 k (a 5) (d 5) ["shape", "held", "action"] (spRb K (TT n) (a 2))) : FnOk P ww K mg base CX0 (k + 1) (a 4) (d 4) ["term", "action"] (spWP K n (a 2)) := by
  refine L.fwith_parts.ok scWithParts (fun vs H Q E h => by obtain ⟨v, kd, fs, ss, qs, es, rfl, _⟩ := h; rfl) (fun cdv A outer s H vs Q E hr h => ?_)
  obtain ⟨v, kd, fs, ss, qs, es, rfl, hv, hk, hf, hl, q⟩ := h
  rw [LIM_eq] at hl
  obtain ⟨aS, gS, hS⟩ := Z.ex
  obtain ⟨b, hD, hb⟩ := hS kd ss hk
  obtain ⟨q0, r, rfl, hs, ha⟩ := tp_head hv
  obtain ⟨l1, l2, F, F0, Fn, Ff, Fl⟩ := hf.qs
  have lr := tpa_len ha
  have lss : ss.length ≤ 6 := shp_len kd ss hk
  have nd := scWithParts.nd
  refine ⟨_, pss_cons (ps_set (i := 2) nd rfl (.inl rfl) (pe_lst (pa_cons (pe_ix ix_tup (pv 0) pe_int (fun _ _ => rfl)) pa_nil)))
      (pss_cons (ps_for PassesOwn.never rfl (pi_zipA (by rfl) B.zip (pa_cons (pe_ix ix_kdict (pe_gc (v := .ref aS) (by rfl) ⟨_, gS, rfl⟩) (pe_ix ix_tup (pv 0) pe_int (fun _ _ => rfl)) (fun _ _ => rfl)) (pa_cons (pe_slice sl_tup (pv 0) (po_some pe_int) po_none) pa_nil))) (pg_tup (by rfl) (pgs_cons (pg_name (i := 3) nd rfl (.inl rfl)) (pgs_cons (pg_name (i := 4) nd rfl (.inl rfl)) pgs_nil)))
        (pss_one (ps_expr (pe_bm PySem.F.plainAttrs_list PySem.F.slot_list_append PySem.F.type_list_append mt_append (pv 2) (pa_cons (pe_call G_rb (hr.mono (by omega)) (by rfl) L.grebuilt L.frebuilt.kp L.brebuilt .nil pass0 (pa_cons (pv 3) (pa_cons (pv 4) (pa_cons (pv 1) pa_nil)))) pa_nil)))))
      (pss_one (ps_ret (pe_callTy call_tuple_of (by rfl) B.tuple (by decide +kernel) (pa_cons (pv 2) pa_nil))))), ?_⟩
  refine ⟨_, rfl, q0, _, _, (.str kd), rfl, rfl, hs, atI_zero, (by show 1 ≤ sizeLine; decide), fun l nl => ?_⟩
  have s1 : Same H (upd H l (.lst [.str kd])) := same_upd nl
  have hs1 := sqt_same s1 hs
  refine ⟨_, rfl, q0, _, _, (.str kd), rfl, rfl, hs1, atI_zero, aS, kd, (.ref b), rfl, rfl, hD, _, rfl, _, rfl, q0, _, rfl, hs1, cut_tl.1, fun z nz => ?_⟩
  rw [cut_tl.2]
  refine ⟨b, z, _, r, rfl, .inr ⟨hb _, sqt_new nz, for_zipT (xs := ss.map fun s => V.str s.s) (ys := r) (by rw [List.length_map]; omega) (fun i σ H' => ∃ (y3 y4 : Option V) (ps : List V) (ms : List D), σ = [some (.ref q0), some (.ref (a 2)), some (.ref l), y3, y4] ∧ Same H H' ∧ SqT K H' z r ∧ H' l = some (.lst ps) ∧ TpAll K H' ps (.str kd :: ms) ∧ ms.length = i ∧ ∀ (j : Nat) (sh : Sh), j < i → ss[j]? = some sh → ∃ m e, ms[j]? = some m ∧ es[j]? = some e ∧ MidR sh m e) ?_ ?_ ?_ ?_⟩⟩
  · exact ⟨none, none, [.str kd], [], rfl, Same.ly s1 nz, sqt_new nz, same_upd nz _ _ upd_same, .cons (.str _) .nil, rfl, fun j sh hj => absurd hj (by omega)⟩
  · rintro i σ H' ⟨y3, y4, ps, ms, rfl, sm, hz, _⟩
    exact ⟨hb _, hz⟩
  · rintro i x y Tz σ H' ex ey ⟨y3, y4, ps, ms, rfl, sm, hz, hp, hpa, hml, hmr⟩ nT
    have hi : i < ss.length := by
      have := (List.getElem?_eq_some_iff.mp ex).1
      rw [List.length_map] at this
      exact this
    obtain ⟨rq, ⟨sh, dd, ee, g1, g2, g3, g4⟩, g5⟩ := Ff i hi
    have hFl := (Fl (i + 1) (by omega)).2
    rw [g5, flat_app, List.length_append] at hFl
    obtain ⟨v9, ev9, hvv⟩ := tpa_at ha g2
    cases Option.some.inj (ey.symm.trans ev9)
    have exs : x = .str sh.s := by
      rw [List.getElem?_map, g1] at ex
      exact (Option.some.inj ex).symm
    subst exs
    have sT : Same H' (upd H' Tz (.tup [.str sh.s, y])) := same_upd nT
    have hp1 := sT _ _ hp
    have hpl : ps.length = i + 1 := by rw [tpa_len hpa, List.length_cons, hml]
    refine ⟨_, _, rfl, sqt_new nT, rfl, _, _, rfl, _, _, rfl, rfl, ?_⟩
    refine ⟨_, rfl, .inl ⟨rfl, _, SqL.of hp1⟩, _, rfl, _, rfl, _, rfl, sh, y, dd, rq, ee, rfl, tp_same sT (tp_same sm hvv), g4, (by rw [LIM_eq]; omega), fun H3 v3 m m3 h3 mr => ?_⟩
    have hp3 := m3 _ _ hp1
    refine ⟨l, ps, _, rfl, rfl, hp3, (by rw [sizeLine_eq]; omega), _, _, ps ++ [v3], ms ++ [m], rfl, ?_, sqt_keep keep_upd (.list hp3) (sqt_same m3 (sqt_same sT hz)), upd_same, ?_, by rw [List.length_append, hml]; rfl, ?_⟩
    · exact fun x o e => by
        rw [upd_ne (fun z => by rw [z, nl] at e; cases e)]
        exact m3 _ _ (sT _ _ (sm _ _ e))
    · exact tpa_lst hp3 (tpa_snoc (tpa_same m3 (tpa_same sT hpa)) h3)
    · intro j sh' hj hj'
      by_cases hji : j < i
      · obtain ⟨m', e', a1, a2, a3⟩ := hmr j sh' hji hj'
        exact ⟨m', e', by rw [List.getElem?_append_left (by omega)]; exact a1, a2, a3⟩
      · obtain rfl : j = i := by omega
        rw [g1] at hj'
        cases hj'
        exact ⟨m, ee, by rw [List.getElem?_append_right (by omega), hml, Nat.sub_self]; rfl, g3, mr⟩
  · rintro σ H' ⟨y3, y4, ps, ms, rfl, sm, hz, hp, hpa, hml, hmr⟩
    rw [List.length_map] at hml hmr
    refine ⟨_, rfl, l, ps, rfl, .inl ⟨SqL.of hp, fun y ny => ?_⟩⟩
    exact q _ _ ms (Same.ly sm ny) (tp_new ny hpa) ⟨hml, by omega, fun i s hs' => hmr i s (List.getElem?_eq_some_iff.mp hs').1 hs'⟩
theorem scBare : FnScope ["shape", "held", "_", "name", "member"] ["shape", "held"] (defScope (top 7)) := ⟨rfl, rfl, rfl, by decide +kernel, rfl, by decide +kernel, by decide +kernel⟩
theorem sh_off {s : Sh} (h : s ≠ .offset) : ¬ decide (V.str s.s = V.str "offset") = true := by
  cases s <;> first | exact absurd rfl h | decide +kernel
theorem sh_mem {s : Sh} (h : s ≠ .members) : ¬ decide (V.str s.s = V.str "members") = true := by
  cases s <;> first | exact absurd rfl h | decide +kernel
theorem ok_bare (L : TPr K mg a d) (B : Bl mg) : FnOk P ww K mg base CX0 1 (a 3) (d 3) ["shape", "held"] (spBare K) := by
  refine L.fbare.ok scBare (fun vs H Q E h => by obtain ⟨s, v, m, e, rfl, _⟩ := h; rfl) (fun cdv A outer s H vs Q E hr h => ?_)
  obtain ⟨s0, v, m, e0, rfl, hv, hf, hl, q⟩ := h
  have nd := scBare.nd
  refine ⟨_, pss_cons (ps_if (pt_cmpR op_eq (pv 0) pe_str (nomark _)) (pss_one (ps_ret pe_int)) pss_nil)
    (pss_cons (ps_if (pt_cmpR op_eq (pv 0) pe_str (nomark _)) (pss_one (ps_ret (pe_callTy call_tuple_of (by rfl) B.tuple (by decide +kernel) (pa_cons (pe_lc (own := [("_", 2), ("name", 3), ("member", 4)]) (g := gTup K 3 (gCons (gName 2) (gCons (gName 3) (gCons (gName 4) gNil)))) (tt := tYes) (by rfl) nd (pi_tup (pv 1)) (blkOk_by (own := [("_", 2), ("name", 3), ("member", 4)]) (N := ["shape", "held", "_", "name", "member"]) (sc := defScope (top 7)) (by decide +kernel))
        (fun _ _ _ _ _ => pg_tup (by rfl) (pgs_cons (pg_name (i := 2) nd rfl (.inl rfl)) (pgs_cons (pg_name (i := 3) nd rfl (.inl rfl)) (pgs_cons (pg_name (i := 4) nd rfl (.inl rfl)) pgs_nil)))) (fun _ _ _ _ _ => pts_nil) (fun _ _ _ _ _ => (pe_tup (pa_cons pe_int (pa_cons (pv 3) (pa_cons (pv 4) pa_nil)))))) pa_nil)))) pss_nil)
    (pss_one (ps_ret (pv 1)))), ?_⟩
  cases hf with
  | offset =>
    refine ⟨_, rfl, rfl, _, rfl, ite2 (fun _ => ?_) (fun e => absurd (by decide +kernel) e)⟩
    exact q H (.int 0) Same.rf (.int 0)
  | same h1 h2 =>
    refine ⟨_, rfl, rfl, _, rfl, ite2 (fun e => absurd e (sh_off h1)) (fun _ => ?_)⟩
    refine ⟨_, rfl, rfl, _, rfl, ite2 (fun e => absurd e (sh_mem h2)) (fun _ => ?_)⟩
    exact ⟨_, rfl, q H _ Same.rf hv⟩
  | @members ms es h =>
    obtain ⟨qd, xs, rfl, hs, hx⟩ := tp_t hv
    have hxl := tpa_len hx
    have hml := h.len
    have hlm := hl ms rfl rfl
    rw [LIM_eq] at hlm
    refine ⟨_, rfl, rfl, _, rfl, ite2 (fun e => absurd e (by decide +kernel)) (fun _ => ?_)⟩
    refine ⟨_, rfl, rfl, _, rfl, ite2 (fun _ => ?_) (fun e => absurd (by decide +kernel) e)⟩
    refine ⟨_, rfl, qd, rfl, ⟨_, hs⟩, fun Dl nD => lcG (walk_tup (K := K) (a := qd) (xs := xs)) (fun i H' => ∃ acc : List V, H' Dl = some (.lst acc) ∧ Same H H' ∧ acc.length = i ∧ TpAll K H' acc (es.take i)) ?_ ?_ ?_ ?_⟩
    · exact ⟨[], upd_same, same_upd nD, rfl, .nil⟩
    · rintro i H' _ ⟨acc, hD, sm, ha⟩
      exact sqt_same sm hs
    · rintro i vx H' H2 hi ⟨acc, hD, sm, hal, ha⟩ ⟨rfl, ev⟩
      have hsz : acc.length < sizeLine := by
        rw [sizeLine_eq]
        omega
      obtain ⟨dm, edm⟩ : ∃ dm, ms[i]? = some dm := ⟨_, List.getElem?_eq_getElem (by omega)⟩
      obtain ⟨o, x, e1, rfl, d2⟩ := h.at edm
      obtain ⟨v9, ev9, hvv⟩ := tpa_at hx edm
      cases Option.some.inj (ev.symm.trans ev9)
      obtain ⟨qi, ys, rfl, hqi, hys⟩ := tp_t (tp_same sm hvv)
      obtain ⟨u0, ys, rfl, hu0, hys⟩ := tpa_c hys
      obtain ⟨u1, ys, rfl, hu1, hys⟩ := tpa_c hys
      obtain ⟨vt, ys, rfl, hvt, hys⟩ := tpa_c hys
      cases tpa_n hys
      refine ⟨_, _, rfl, hqi, rfl, _, _, rfl, _, _, rfl, _, _, rfl, rfl, rfl, _, rfl, _, rfl, (by show 3 ≤ sizeLine; decide), fun z nz => ?_⟩
      have m5 := same_upd (o := HO.tup [.int 0, u1, vt]) nz
      have hD3 := m5 _ _ hD
      refine ⟨acc, hD3, hsz, acc ++ [.ref z], upd_same, ?_, by rw [List.length_append, hal]; rfl, ?_⟩
      · exact fun x o e => by
          rw [upd_ne (fun z => by rw [z, nD] at e; cases e)]
          exact m5 _ _ (sm _ _ e)
      · rw [take_snoc d2]
        exact tpa_lst hD3 (tpa_snoc (tpa_same m5 ha) (tp_new nz (.cons (.int _) (.cons hu1 (.cons hvt .nil)))))
    · rintro H' ⟨acc, hD, sm, hal, ha⟩
      rw [hxl, hml, List.take_length] at ha
      refine ⟨Dl, acc, rfl, .inl ⟨SqL.of hD, fun y ny => ?_⟩⟩
      exact q _ _ (Same.ly sm ny) (tp_new ny ha)
theorem scWithout : FnScope ["term", "inner", "held", "shape", "part"] ["term"] (defScope (top 6)) := ⟨rfl, rfl, rfl, by decide +kernel, rfl, by decide +kernel, by decide +kernel⟩
theorem ok_without {n k : Nat} (hk1 : 1 ≤ k) (L : TPr K mg a d) (Z : KSh K ww mg) (B : Bl mg) (G_wp : FnOk P ww K mg base CX0 k (a 4) (d 4) ["term", "action"] (spWP K n (a 2))) : FnOk P ww K mg base CX0 (k + 1) (a 2) (d 2) ["term"] (spWO K (TT (n + 1))) := by
  have G_bare : FnOk P ww K mg base CX0 1 (a 3) (d 3) ["shape", "held"] (spBare K) := ok_bare L B
  refine L.fwithout_offsets.ok scWithout (fun vs H Q E h => by obtain ⟨v, d, w, e, rfl, _⟩ := h; rfl) (fun cdv A outer s H vs Q E hr h => ?_)
  obtain ⟨v, d0, w0, e0, rfl, hv, ⟨kd, fs, ss, qs, es, hk, rfl, hf, rfl, rfl⟩, hl, q⟩ := h
  rw [LIM_eq, List.length_cons] at hl
  obtain ⟨aS, gS, hS⟩ := Z.ex
  obtain ⟨b, hD, hb⟩ := hS kd ss hk
  have lss : ss.length ≤ 6 := shp_len kd ss hk
  have nd := scWithout.nd
  have hfl := hf.len (tt_good n)
  refine ⟨_, pss_cons (ps_set (i := 1) nd rfl (.inl rfl) (pe_call G_wp hr (by rfl) L.gwith_parts L.fwith_parts.kp L.bwith_parts .nil pass0 (pa_cons (pv 0) (pa_cons (pe_gc (v := .ref (a 2)) (by rfl) ⟨_, L.gwithout_offsets, rfl⟩) pa_nil))))
      (pss_cons (ps_setLc (i := 2) (own := [("shape", 3), ("part", 4)]) (g := gTup K 2 (gCons (gName 3) (gCons (gName 4) gNil))) (tt := tYes) (by rfl) nd rfl rfl (sw_true rfl rfl rfl (by decide +kernel)) (pi_zipA (by rfl) B.zip (pa_cons (pe_ix ix_kdict (pe_gc (v := .ref aS) (by rfl) ⟨_, gS, rfl⟩) (pe_ix ix_tup (pv 1) pe_int (fun _ _ => rfl)) (fun _ _ => rfl)) (pa_cons (pe_slice sl_tup (pv 1) (po_some pe_int) po_none) pa_nil))) (blkOk_by (own := [("shape", 3), ("part", 4)]) (N := ["term", "inner", "held", "shape", "part"]) (sc := defScope (top 6)) (by decide +kernel)) (fun _ _ _ _ _ => pg_tup (by rfl) (pgs_cons (pg_name (i := 3) nd rfl (.inl rfl)) (pgs_cons (pg_name (i := 4) nd rfl (.inl rfl)) pgs_nil))) (fun _ _ _ _ _ => pts_nil) (fun _ _ _ _ _ => (pe_call G_bare (hr.mono (by omega)) (by rfl) L.gbare L.fbare.kp L.bbare .nil pass0 (pa_cons (pv 3) (pa_cons (pv 4) pa_nil)))))
      (pss_one (ps_ret (pe_tup (pa_cons (pe_ix ix_tup (pv 1) pe_int (fun _ _ => rfl)) (pa_star (pv 2) pa_nil)))))), ?_⟩
  refine ⟨_, rfl, v, kd, fs, ss, qs, es, rfl, hv, hk, hf, (by rw [LIM_eq]; omega), fun H1 v1 ms s01 hv1 hm => ?_⟩
  obtain ⟨q0, r, rfl, hs, ha⟩ := tp_head hv1
  have lr := tpa_len ha
  obtain ⟨m1, m2, m3⟩ := hm
  refine ⟨_, rfl, q0, _, _, (.str kd), rfl, rfl, hs, atI_zero, aS, kd, (.ref b), rfl, rfl, hD, _, rfl, _, rfl, q0, _, rfl, hs, cut_tl.1, fun z nz => ?_⟩
  rw [cut_tl.2]
  have mz := same_upd (o := HO.tup r) nz
  refine ⟨b, z, _, r, rfl, .inr ⟨hb _, sqt_new nz, fun Dl nD => lcG (walk_zipT (K := K) (a := b) (b := z) (xs := ss.map fun s => V.str s.s) (ys := r) (by rw [List.length_map]; omega)) (fun i H' => ∃ acc : List V, H' Dl = some (.lst acc) ∧ Same H1 H' ∧ SqT K H' z r ∧ acc.length = i ∧ TpAll K H' acc (es.take i)) ?_ ?_ ?_ ?_⟩⟩
  · exact ⟨[], upd_same, Same.ly mz nD, sqt_same (same_upd nD) (sqt_new nz), rfl, .nil⟩
  · rintro i H' _ ⟨acc, hD, sm, hz, ha⟩
    exact ⟨hb _, hz⟩
  · rintro i vx H' H2 hi ⟨acc, hDl, sm, hz, hal, hacc⟩ ⟨Tz, x, y, rfl, nT, rfl, ex, ey⟩
    rw [List.length_map] at hi
    obtain ⟨sh, g1⟩ : ∃ sh, ss[i]? = some sh := ⟨_, List.getElem?_eq_getElem hi⟩
    obtain ⟨m, ee, g2, g3, g4⟩ := m3 i sh g1
    obtain ⟨v9, ev9, hvv⟩ := tpa_at ha g2
    cases Option.some.inj (ey.symm.trans ev9)
    have exs : x = .str sh.s := by
      have ex' : (ss.map fun s => V.str s.s)[i]? = some x := ex
      rw [List.getElem?_map, g1] at ex'
      exact (Option.some.inj ex').symm
    subst exs
    have sT : Same H' (upd H' Tz (.tup [.str sh.s, y])) := same_upd nT
    refine ⟨_, _, rfl, sqt_new nT, rfl, _, _, rfl, _, _, rfl, rfl, rfl, _, rfl, _, rfl, sh, y, m, ee, rfl, tp_same sT (tp_same sm hvv), g4, ?_, fun H3 v3 m3 h3 => ?_⟩
    · intro ms' e1 e2
      subst e1 e2
      cases g4 with
      | same h1 h2 => exact absurd rfl h2
      | @members _ es' hmm =>
        rw [LIM_eq, hmm.len]
        obtain ⟨l1, l2, F, F0, Fn, Ff, Fl⟩ := hf.qs
        obtain ⟨rq, ⟨sh', dd, ee, b1, b2, b3, b4⟩, b5⟩ := Ff i hi
        rw [g1] at b1
        cases b1
        rw [g3] at b3
        cases b3
        have hFl := (Fl (i + 1) (by omega)).1
        rw [b5, List.length_append] at hFl
        cases b4 with
        | members hml =>
          have := (hml.len (tt_good n)).2
          have e2 : es'.length = rq.length := by
            rw [← this]
            exact (mids_mm hml).len.symm.trans (mids_len hml)
          omega
    have hD3 := m3 _ _ (sT _ _ hDl)
    refine ⟨acc, hD3, (by rw [sizeLine_eq]; omega), acc ++ [v3], upd_same, ?_, sqt_keep keep_upd (.list hD3) (sqt_same m3 (sqt_same sT hz)), by rw [List.length_append, hal]; rfl, ?_⟩
    · exact fun x o e => by
        rw [upd_ne (fun z' => by
          have e' := mz _ _ e
          rw [z', nD] at e'
          cases e')]
        exact m3 _ _ (sT _ _ (sm _ _ e))
    · rw [take_snoc g3]
      exact tpa_lst hD3 (tpa_snoc (tpa_same m3 (tpa_same sT hacc)) h3)
  · rintro H' ⟨acc, hDl, sm, hz, hal, hacc⟩
    rw [List.length_map] at hal hacc
    rw [← m2, List.take_length] at hacc
    refine ⟨_, rfl, q0, _, _, (.str kd), rfl, rfl, sqt_same sm hs, atI_zero, _, rfl, Dl, acc, rfl, .inr (SqL.of hDl), ?_, fun y ny => ?_⟩
    · show (V.str kd :: (acc ++ [])).length ≤ sizeLine
      rw [sizeLine_eq, List.append_nil, List.length_cons]
      omega
    · rw [List.append_nil]
      exact q _ _ (s01.trans (Same.ly sm ny)) (tp_new ny (.cons (.str _) hacc))
theorem ok_bares (L : TPr K mg a d) (Z : KSh K ww mg) (B : Bl mg) : ∀ n, FnOk P ww K mg base CX0 (3 * n) (a 2) (d 2) ["term"] (spWO K (TT n))
  | 0 => ⟨fun vs H Q E ⟨_, _, _, _, _, _, h, _⟩ => h.elim, fun _ _ _ _ _ _ _ _ _ _ _ _ _ ⟨_, _, _, _, _, _, h, _⟩ => h.elim⟩
  | n + 1 => ok_without (by omega) L Z B (ok_with_parts L Z B (ok_rebuilt L B (tt_good n) (ok_bares L Z B n)))
end
end My
namespace My
open PySem L2 SX CwR RZ StX
open C8 (pss_cut tCut cutS_slice pe_gc)
/-! ### what the law finds in a tree -/
def kindsV : List V := [V.str (Str.ofString "null"), V.str (Str.ofString "bool"), V.str (Str.ofString "int"), V.str (Str.ofString "text"), V.str (Str.ofString "name"), V.str (Str.ofString "assign"), V.str (Str.ofString "set_index"), V.str (Str.ofString "set_field"), V.str (Str.ofString "unary"), V.str (Str.ofString "binary"), V.str (Str.ofString "both"), V.str (Str.ofString "either"), V.str (Str.ofString "list"), V.str (Str.ofString "map"), V.str (Str.ofString "index"), V.str (Str.ofString "field"), V.str (Str.ofString "call"), V.str (Str.ofString "invoke"), V.str (Str.ofString "super"), V.str (Str.ofString "function"), V.str (Str.ofString "class"), V.str (Str.ofString "block"), V.str (Str.ofString "let"), V.str (Str.ofString "group"), V.str (Str.ofString "do"), V.str (Str.ofString "if"), V.str (Str.ofString "while"), V.str (Str.ofString "for"), V.str (Str.ofString "break"), V.str (Str.ofString "continue"), V.str (Str.ofString "return"), V.str (Str.ofString "throw"), V.str (Str.ofString "try")]
theorem kinds_in : ∀ k ss, shpOf k = some ss → inV (.str k) kindsV = true := by
  intro k ss h
  have hm : (k, ss) ∈ shpT := lookup_mem h
  have : ∀ p ∈ shpT, inV (.str p.1) kindsV = true := by decide +kernel
  exact this _ hm
theorem kinds_not : ∀ x ∈ [cs "init", cs "x", cs "size"], inV (.str (S x)) kindsV = false := by decide +kernel
theorem kinds_flat : kindsV.all flatV = true := by decide +kernel
inductive LL (R : D → List D → Prop) : List D → List D → Prop
  | nil : LL R [] []
  | cons {d w ds ws} : R d w → LL R ds ws → LL R (d :: ds) (w ++ ws)
def NotKind : D → Prop
  | .str x => inV (.str x) kindsV = false
  | .int _ => True
  | .tuple _ => True
  | _ => False
def cutN (k : Str) : Nat := if k = "class" then 2 else if k = "function" then 3 else 0
def PW : Nat → D → List D → Prop
  | 0, _, _ => False
  | m + 1, d, ws => (ws = [] ∧ (Scal d ∨ d = .none ∨ d = .tuple [])) ∨ (∃ d0 ds, d = .tuple (d0 :: ds) ∧ NotKind d0 ∧ LL (PW m) (d0 :: ds) ws) ∨ (∃ k fs ss ws', shpOf k = some ss ∧ d = tup k fs ∧ ws = d :: ws' ∧ LL (PW m) (fs.drop (cutN k)) ws')
theorem LL.mono {R U : D → List D → Prop} (h : ∀ {d w}, R d w → U d w) : ∀ {ds ws}, LL R ds ws → LL U ds ws
  | _, _, .nil => .nil
  | _, _, .cons a b => .cons (h a) (LL.mono h b)
theorem PW.up1 : ∀ {m : Nat} {d : D} {w : List D}, PW m d w → PW (m + 1) d w
  | 0, _, _, h => h.elim
  | m + 1, _, _, .inl h => .inl h
  | m + 1, _, _, .inr (.inl ⟨d0, ds, h1, h2, h3⟩) => .inr (.inl ⟨d0, ds, h1, h2, h3.mono PW.up1⟩)
  | m + 1, _, _, .inr (.inr ⟨k, fs, ss, ws', h1, h2, h3, h4⟩) => .inr (.inr ⟨k, fs, ss, ws', h1, h2, h3, h4.mono PW.up1⟩)
theorem PW.up {n m : Nat} (l : n ≤ m) {d : D} {w : List D} (h : PW n d w) : PW m d w := by
  induction l with
  | refl => exact h
  | step _ ih => exact PW.up1 ih
theorem LL.steps {R : D → List D → Prop} : ∀ {ds ws}, LL R ds ws → ∃ W : Nat → List D, W 0 = [] ∧ W ds.length = ws ∧ (∀ i, i < ds.length → ∃ d w, ds[i]? = some d ∧ R d w ∧ W (i + 1) = W i ++ w) ∧ ∀ i, i ≤ ds.length → (W i).length ≤ ws.length
  | _, _, .nil => ⟨fun _ => [], rfl, rfl, fun i h => absurd h (Nat.not_lt_zero i), fun i h => Nat.le_refl _⟩
  | _, _, .cons (w := w) (ds := ds) (ws := ws) h a => by
    obtain ⟨W, h0, h1, h2, h3⟩ := LL.steps a
    refine ⟨fun i => match i with | 0 => [] | i + 1 => w ++ W i, rfl, by show w ++ W ds.length = w ++ ws; rw [h1], fun i hi => ?_, fun i hi => ?_⟩
    · cases i with
      | zero => exact ⟨_, w, rfl, h, by show w ++ W 0 = [] ++ w; rw [h0, List.append_nil, List.nil_append]⟩
      | succ i =>
        obtain ⟨d, w', h4, h5, h6⟩ := h2 i (by simp only [List.length_cons] at hi; omega)
        exact ⟨d, w', h4, h5, by show w ++ W (i + 1) = w ++ W i ++ w'; rw [h6, List.append_assoc]⟩
    · cases i with
      | zero => exact Nat.zero_le _
      | succ i =>
        show (w ++ W i).length ≤ (w ++ ws).length
        rw [List.length_append, List.length_append]
        exact Nat.add_le_add_left (h3 i (by simp only [List.length_cons] at hi; omega)) _
section
variable {n : Nat}
theorem tt_pos {n : Nat} {d w e} (h : TT n d w e) : 1 ≤ n := by
  cases n with
  | zero => exact h.elim
  | succ n => omega
theorem tl_ll {T : TR} {R : D → List D → Prop} (g : ∀ d w e, T d w e → R d w) : ∀ {ds qs es}, TL T ds qs es → LL R ds (flat qs)
  | _, _, _, .nil => .nil
  | _, _, _, .cons h a => .cons (g _ _ _ h) (tl_ll g a)
theorem pl_ll {T : TR} {R U : D → List D → Prop} (hT : GoodT T) (g : ∀ d w e, T d w e → R d w) (u : ∀ d0 ds ws, NotKind d0 → LL R (d0 :: ds) ws → U (.tuple (d0 :: ds)) ws) : ∀ {ds qs es}, PL T ds qs es → LL U ds (flat qs)
  | _, _, _, .nil => .nil
  | _, _, _, .cons (v := vv) (w1 := w1) (w2 := w2) (qs := qs) h i a => by
    obtain ⟨⟨k, fs, rfl⟩, _⟩ := hT h
    have x : U (.tuple [tup k fs, vv]) (w1 ++ (w2 ++ [])) := u _ _ _ (show NotKind (tup k fs) from trivial) (.cons (g _ _ _ h) (.cons (g _ _ _ i) .nil))
    rw [List.append_nil] at x
    have e : flat ((tup k fs, w1) :: (vv, w2) :: qs) = (w1 ++ w2) ++ flat qs := by
      rw [flat_cons, flat_cons, List.append_assoc]
    rw [e]
    exact .cons x (pl_ll hT g u a)
theorem ml_ll {T : TR} {R U : D → List D → Prop} (g : ∀ d w e, T d w e → R d w ∧ ∀ z, Scal z → R z []) (u : ∀ d0 ds ws, NotKind d0 → LL R (d0 :: ds) ws → U (.tuple (d0 :: ds)) ws) : ∀ {ds qs es}, ML T ds qs es → LL U ds (flat qs)
  | _, _, _, .nil => .nil
  | _, _, _, .cons (i := i) (x := x) (w := w) h a => by
    have x : U (.tuple [.int i, .str x, _]) ([] ++ ([] ++ (w ++ []))) := u _ _ _ (show NotKind (.int i) from trivial) (.cons ((g _ _ _ h).2 _ trivial) (.cons ((g _ _ _ h).2 _ trivial) (.cons (g _ _ _ h).1 .nil)))
    rw [List.append_nil] at x
    exact .cons x (ml_ll g u a)
theorem hl_ll {T : TR} {R U : D → List D → Prop} (g : ∀ d w e, T d w e → R d w ∧ ∀ z, Scal z → R z []) (u : ∀ d0 ds ws, NotKind d0 → LL R (d0 :: ds) ws → U (.tuple (d0 :: ds)) ws) : ∀ {ds qs es}, HL T ds qs es → LL U ds (flat qs)
  | _, _, _, .nil => .nil
  | _, _, _, .cons (x := x) (w := w) hx h a => by
    have x : U (.tuple [.str (S x), _]) ([] ++ (w ++ [])) := u _ _ _ (show NotKind (.str (S x)) from kinds_not _ hx) (.cons ((g _ _ _ h).2 _ trivial) (.cons (g _ _ _ h).1 .nil))
    rw [List.append_nil] at x
    exact .cons x (hl_ll g u a)
theorem pw_scal {m : Nat} (hm : 1 ≤ m) {z : D} (h : Scal z) : PW m z [] := by
  obtain ⟨m, rfl⟩ : ∃ k, m = k + 1 := ⟨m - 1, by omega⟩
  exact .inl ⟨rfl, .inl h⟩
theorem pw_tup {m : Nat} {ds ws} (h : LL (PW m) ds ws) (hn : ∀ d0 r, ds = d0 :: r → NotKind d0) : PW (m + 1) (.tuple ds) ws := by
  cases h with
  | nil => exact .inl ⟨rfl, .inr (.inr rfl)⟩
  | cons a b => exact .inr (.inl ⟨_, _, rfl, hn _ _ rfl, .cons a b⟩)
theorem ff_pw (g : ∀ {d w e}, TT n d w e → PW (3 * n) d w) {s d q e} (h : FF (TT n) s d q e) (hs : s ≠ .params) : PW (3 * n + 2) d (flat q) := by
  have g2 : ∀ d w e, TT n d w e → PW (3 * n) d w ∧ ∀ z, Scal z → PW (3 * n) z [] := fun _ _ _ h => ⟨g h, fun z hz => pw_scal (by have := tt_pos h; omega) hz⟩
  have u : ∀ (d0 : D) ds ws, NotKind d0 → LL (PW (3 * n)) (d0 :: ds) ws → PW (3 * n + 1) (.tuple (d0 :: ds)) ws := fun _ _ _ h a => .inr (.inl ⟨_, _, rfl, h, a⟩)
  cases h with
  | offset => exact pw_scal (by omega) trivial
  | plain hp => exact pw_scal (by omega) hp
  | params => exact absurd rfl hs
  | term h =>
    rw [flat_cons, flat_nil, List.append_nil]
    exact (g h).up (by omega)
  | non => exact .inl ⟨rfl, .inr (.inl rfl)⟩
  | som h =>
    rw [flat_cons, flat_nil, List.append_nil]
    exact (g h).up (by omega)
  | terms h =>
    refine pw_tup ((tl_ll (fun _ _ _ h => g h) h).mono (fun h => PW.up (show 3 * n ≤ 3 * n + 1 by omega) h)) fun d0 r e => ?_
    subst e
    cases h with
    | cons a b =>
      obtain ⟨⟨k, fs, rfl⟩, _⟩ := tt_good n a
      trivial
  | pairs h =>
    refine pw_tup (pl_ll (tt_good n) (fun _ _ _ h => g h) u h) fun d0 r e => ?_
    subst e
    cases h with
    | cons a b c => trivial
  | members h =>
    refine pw_tup (ml_ll g2 u h) fun d0 r e => ?_
    subst e
    cases h with
    | cons a b => trivial
  | methods h =>
    refine pw_tup (hl_ll g2 u h) fun d0 r e => ?_
    subst e
    cases h with
    | cons x a b => trivial
theorem ffs_ll (g : ∀ {d w e}, TT n d w e → PW (3 * n) d w) : ∀ {ss fs qs es}, FFs (TT n) ss fs qs es → (∀ s ∈ ss, s ≠ .params) → LL (PW (3 * n + 2)) fs (flat qs)
  | _, _, _, _, .nil, _ => .nil
  | _, _, _, _, .cons h a, hs => by
    rw [flat_app]
    exact .cons (ff_pw g h (hs _ (List.mem_cons_self ..))) (ffs_ll g a fun s m => hs s (List.mem_cons_of_mem _ m))
end
theorem shp_par : ∀ k ss, shpOf k = some ss → k ≠ "function" → ∀ s ∈ ss, s ≠ .params := by
  intro k ss h hk
  have hm : (k, ss) ∈ shpT := lookup_mem h
  have : ∀ p ∈ shpT, p.1 ≠ "function" → ∀ s ∈ p.2, s ≠ .params := by decide +kernel
  exact this _ hm hk
theorem tt_pw : ∀ (n : Nat) {d w e}, TT n d w e → PW (3 * n) d w
  | 0, _, _, _, h => h.elim
  | n + 1, _, _, _, ⟨k, fs, ss, qs, es, h1, rfl, h3, rfl, h5⟩ => by
    refine .inr (.inr ⟨k, fs, ss, flat qs, h1, rfl, rfl, ?_⟩)
    have g : ∀ {d w e}, TT n d w e → PW (3 * n) d w := fun h => tt_pw n h
    unfold cutN
    by_cases e1 : k = "class"
    · subst e1
      have : some [Sh.offset, Sh.plain, Sh.option, Sh.methods] = some ss := (by decide +kernel : shpOf "class" = some [Sh.offset, Sh.plain, Sh.option, Sh.methods]).symm.trans h1
      cases this
      rw [if_pos rfl]
      cases h3 with
      | cons a h3 =>
        cases a
        cases h3 with
        | cons a h3 =>
          cases a
          exact ffs_ll g h3 (by decide)
    · rw [if_neg e1]
      by_cases e2 : k = "function"
      · subst e2
        have : some [Sh.offset, Sh.plain, Sh.params, Sh.term] = some ss := (by decide +kernel : shpOf "function" = some [Sh.offset, Sh.plain, Sh.params, Sh.term]).symm.trans h1
        cases this
        rw [if_pos rfl]
        cases h3 with
        | cons a h3 =>
          cases a
          cases h3 with
          | cons a h3 =>
            cases a
            cases h3 with
            | cons a h3 =>
              cases a
              exact ffs_ll g h3 (by decide)
      · rw [if_neg e2]
        exact ffs_ll g h3 (shp_par k ss h1 e2)
/-! ### _law_kinds, _law_inside -/
/-- the law's searching defs, where they stand -/
structure TS' (K : PySem.W.Frag) (mg : Str → Option Value) (a : Nat → Addr) (d : Nat → FuncData) : Prop where
  f_law_kinds : Fun K "_law_kinds" "_law_kinds" (top 35) (a 0) (d 0)
  b_law_kinds : Binds K (d 0) [] []
  g_law_kinds : mg "_law_kinds" = some (.ref (a 0))
  f_law_terms_in : Fun K "_law_terms_in" "_law_terms_in" (top 36) (a 1) (d 1)
  b_law_terms_in : Binds K (d 1) ["found", "part"] []
  g_law_terms_in : mg "_law_terms_in" = some (.ref (a 1))
  f_law_inside : Fun K "_law_inside" "_law_inside" (top 37) (a 2) (d 2)
  b_law_inside : Binds K (d 2) ["term"] []
  g_law_inside : mg "_law_inside" = some (.ref (a 2))
  f_law_walk : Fun K "_law_walk" "_law_walk" (top 38) (a 3) (d 3)
  b_law_walk : Binds K (d 3) ["found", "term"] []
  g_law_walk : mg "_law_walk" = some (.ref (a 3))
def spKi (K : PySem.W.Frag) : Sp := fun vs H Q _ => vs = [] ∧ ∀ H' y, Same H H' → SqT K H' y kindsV → Q (.ref y) H'
def spIns (K : PySem.W.Frag) : Sp := fun vs H Q _ => ∃ (v : V) (k : Str) (fs : List D), vs = [v] ∧ Tp K H v (tup k fs) ∧ ∀ H' y xs, Same H H' → SqT K H' y xs → TpAll K H' xs (fs.drop (cutN k)) → Q (.ref y) H'
theorem cut_n {v : V} {vs : List V} (j : Nat) : ¬ (HT.sIx (v :: vs).length 0 (some ((j + 1 : Nat) : Int)) = 0 ∧ HT.sIx (v :: vs).length (v :: vs).length none = (v :: vs).length) ∧ cutV (v :: vs) (some ((j + 1 : Nat) : Int)) none = vs.drop j := by
  have e : HT.sIx (v :: vs).length 0 (some ((j + 1 : Nat) : Int)) = min (j + 1) (vs.length + 1) := HT.sIx_nat (v :: vs).length 0 (j + 1)
  refine ⟨fun h => by rw [e] at h; omega, ?_⟩
  unfold cutV
  rw [e, HT.sIx_none, List.length_cons]
  by_cases hj : j ≤ vs.length
  · rw [Nat.min_eq_left (by omega), List.drop_succ_cons]
    rw [List.take_of_length_le]
    rw [List.length_drop]
    omega
  · have d1 : (v :: vs).drop (vs.length + 1) = [] := List.drop_eq_nil_of_le (by rw [List.length_cons]; exact Nat.le_refl _)
    have d2 : vs.drop j = [] := List.drop_eq_nil_of_le (by omega)
    rw [Nat.min_eq_right (by omega), d1, d2, List.take_nil]
theorem tpa_drop {K : PySem.W.Frag} {H : Hp} : ∀ (j : Nat) {vs : List V} {ds : List D}, TpAll K H vs ds → TpAll K H (vs.drop j) (ds.drop j)
  | 0, _, _, h => h
  | _ + 1, _, _, .nil => .nil
  | j + 1, _, _, .cons _ a => tpa_drop j a
theorem tyx_tup {K : PySem.W.Frag} {H : Hp} {q : Addr} {xs : List V} (h : SqT K H q xs) : TyX K H (.ref q) (.type "tuple") := by
  rcases h with (h | ⟨o, h⟩) | ⟨o, its, n, h1, h2, _⟩
  · exact .base (.tup h)
  · exact .fTuple h
  · exact .kTuple h1 h2
section
variable {P : Program} {ww : World} {K : PySem.W.Frag} {mg : Str → Option Value} {base : Heap} {a : Nat → Addr} {d : Nat → FuncData}
theorem scKinds : FnScope [] [] (defScope (top 35)) := ⟨rfl, rfl, rfl, by decide +kernel, rfl, by decide +kernel, by decide +kernel⟩
theorem ok_kinds (L : TS' K mg a d) : FnOk P ww K mg base CX0 1 (a 0) (d 0) [] (spKi K) := by
  refine L.f_law_kinds.ok scKinds (fun vs H Q E h => by rw [h.1]; rfl) (fun cdv A outer s H vs Q E hr h => ?_)
  obtain ⟨rfl, q⟩ := h
  refine ⟨_, pss_one (ps_ret (pe_tup (pa_cons pe_str (pa_cons pe_str (pa_cons pe_str (pa_cons pe_str (pa_cons pe_str (pa_cons pe_str (pa_cons pe_str (pa_cons pe_str (pa_cons pe_str (pa_cons pe_str (pa_cons pe_str (pa_cons pe_str (pa_cons pe_str (pa_cons pe_str (pa_cons pe_str (pa_cons pe_str (pa_cons pe_str (pa_cons pe_str (pa_cons pe_str (pa_cons pe_str (pa_cons pe_str (pa_cons pe_str (pa_cons pe_str (pa_cons pe_str (pa_cons pe_str (pa_cons pe_str (pa_cons pe_str (pa_cons pe_str (pa_cons pe_str (pa_cons pe_str (pa_cons pe_str (pa_cons pe_str (pa_cons pe_str pa_nil))))))))))))))))))))))))))))))))))), ?_⟩
  exact ⟨(by show 33 ≤ sizeLine; decide), fun y ny => q _ y (same_upd ny) (.inl (.inl upd_same))⟩
theorem scInside : FnScope ["term"] ["term"] (defScope (top 37)) := ⟨rfl, rfl, rfl, by decide +kernel, rfl, by decide +kernel, by decide +kernel⟩
theorem ok_inside (L : TS' K mg a d) : FnOk P ww K mg base CX0 1 (a 2) (d 2) ["term"] (spIns K) := by
  refine L.f_law_inside.ok scInside (fun vs H Q E h => by obtain ⟨v, k, fs, rfl, _⟩ := h; rfl) (fun cdv A outer s H vs Q E hr h => ?_)
  obtain ⟨v, k, fs, rfl, hv, q⟩ := h
  obtain ⟨q0, r, rfl, hs, ha⟩ := tp_head hv
  have fin : ∀ (j : Nat) (z : Addr), cutN k = j → H z = none → Q (.ref z) (upd H z (.tup (cutV (.str k :: r) (some ((j + 1 : Nat) : Int)) none))) := fun j z e nz => by
    rw [(cut_n j).2]
    refine q _ z _ (same_upd nz) (sqt_new nz) ?_
    rw [e]
    exact tpa_same (same_upd nz) (tpa_drop j ha)
  have sl : ∀ j : Nat, ¬ (HT.sIx (V.str k :: r).length 0 (some ((j + 1 : Nat) : Int)) = 0 ∧ HT.sIx (V.str k :: r).length (V.str k :: r).length none = (V.str k :: r).length) := fun j => (cut_n j).1
  refine ⟨_, pss_cons (ps_if (pt_cmpR op_eq (pe_ix ix_tup (pv 0) pe_int (fun _ _ => rfl)) pe_str (nomark _))
        (pss_one (ps_ret (pe_slice sl_tup (pv 0) (po_some pe_int) po_none)))
        pss_nil)
      (pss_cons (ps_if (pt_cmpR op_eq (pe_ix ix_tup (pv 0) pe_int (fun _ _ => rfl)) pe_str (nomark _))
        (pss_one (ps_ret (pe_slice sl_tup (pv 0) (po_some pe_int) po_none)))
        pss_nil)
      (pss_one (ps_ret (pe_slice sl_tup (pv 0) (po_some pe_int) po_none)))), ?_⟩
  refine ⟨_, rfl, q0, _, _, (.str k), rfl, rfl, hs, atI_zero, rfl, _, rfl, ite2 (fun e => ?_) (fun e => ?_)⟩
  · have ek : k = "class" := by
      have := of_decide_eq_true e
      injection this
    exact ⟨_, rfl, _, rfl, q0, _, rfl, hs, sl 2, fun z nz => fin 2 z (by unfold cutN; rw [if_pos ek]) nz⟩
  have ek1 : ¬ k = "class" := fun z => e (by rw [z]; rfl)
  refine ⟨_, rfl, q0, _, _, (.str k), rfl, rfl, hs, atI_zero, rfl, _, rfl, ite2 (fun e => ?_) (fun e => ?_)⟩
  · have ek : k = "function" := by
      have := of_decide_eq_true e
      injection this
    exact ⟨_, rfl, _, rfl, q0, _, rfl, hs, sl 3, fun z nz => fin 3 z (by unfold cutN; rw [if_neg ek1, if_pos ek]) nz⟩
  have ek2 : ¬ k = "function" := fun z => e (by rw [z]; rfl)
  exact ⟨_, rfl, _, rfl, q0, _, rfl, hs, sl 0, fun z nz => fin 0 z (by unfold cutN; rw [if_neg ek1, if_neg ek2]) nz⟩
theorem ne_len (v : V) (r : List V) : ¬ decide (V.int (((v :: r).length : Nat) : Int) = V.int 0) = true := fun e => by
  have := of_decide_eq_true e
  injection this with z
  rw [List.length_cons] at z
  omega
/-! ### _law_terms_in -/
def spTin (K : PySem.W.Frag) (m : Nat) : Sp := fun vs H Q _ => ∃ (l : Addr) (v : V) (d : D) (ws : List D) (xs0 : List V), vs = [.ref l, v] ∧ H l = some (.lst xs0) ∧ Tp K H v d ∧ PW m d ws ∧ xs0.length + ws.length ≤ LIM ∧
  ∀ H' xs, Keep l H H' → H' l = some (.lst (xs0 ++ xs)) → TpAll K H' xs ws → Q .non H'
theorem scTin : FnScope ["found", "part", "other"] ["found", "part"] (defScope (top 36)) := ⟨rfl, rfl, rfl, by decide +kernel, rfl, by decide +kernel, by decide +kernel⟩
theorem ok_tin {m k : Nat} (hk : 1 ≤ k) (L : TS' K mg a d) (B : Bl mg) (G_t : FnOk P ww K mg base CX0 k (a 1) (d 1) ["found", "part"] (spTin K m)) : FnOk P ww K mg base CX0 (k + 1) (a 1) (d 1) ["found", "part"] (spTin K (m + 1)) := by
  have G_k : FnOk P ww K mg base CX0 1 (a 0) (d 0) [] (spKi K) := ok_kinds L
  have G_i : FnOk P ww K mg base CX0 1 (a 2) (d 2) ["term"] (spIns K) := ok_inside L
  refine L.f_law_terms_in.ok scTin (fun vs H Q E h => by obtain ⟨l, v, d, ws, xs0, rfl, _⟩ := h; rfl) (fun cdv A outer s H vs Q E hr h => ?_)
  obtain ⟨l, v, d0, ws, xs0, rfl, hl, hv, hp, hlen, q⟩ := h
  rw [LIM_eq] at hlen
  refine ⟨_, pss_cons (ps_if (PW.pt (pw_or (pt_not (pt_val (pe_callB call_isi (by rfl) B.isinstance (by decide +kernel) (pa_cons (pv 1) (pa_cons (pe_bltn (v := .ty "tuple") (by rfl) B.tuple (by decide +kernel) rfl) pa_nil))))) (pw_or1 (pt_cmpR op_eq (pe_callB call_len_seq (by rfl) B.len PySem.boot_len (pa_cons (pv 1) pa_nil)) pe_int (nomark _)))))
        (pss_one ps_retN)
        pss_nil)
      (pss_one (ps_if (PW.pt (pw_and (pt_val (pe_callB call_isi (by rfl) B.isinstance (by decide +kernel) (pa_cons (pe_ix ix_tup (pv 1) pe_int (fun _ _ => rfl)) (pa_cons (pe_bltn (v := .ty "str") (by rfl) B.str (by decide +kernel) rfl) pa_nil)))) (pw_and1 (pt_cmpR op_in_seq (pe_ix ix_tup (pv 1) pe_int (fun _ _ => rfl)) (pe_call0 G_k (hr.mono (by omega)) (by rfl) L.g_law_kinds L.f_law_kinds.kp L.b_law_kinds .nil pass0) (by rfl)))))
        (pss_cons (ps_expr (pe_bm PySem.F.plainAttrs_list PySem.F.slot_list_append PySem.F.type_list_append mt_append (pv 0) (pa_cons (pv 1) pa_nil)))
        (pss_one (ps_for PassesOwn.never rfl (pi_tup (pe_call G_i (hr.mono (by omega)) (by rfl) L.g_law_inside L.f_law_inside.kp L.b_law_inside .nil pass0 (pa_cons (pv 1) pa_nil))) (pg_name (i := 2) scTin.nd rfl (.inl rfl))
          (pss_one (ps_expr (pe_call G_t (hr.mono (by omega)) (by rfl) L.g_law_terms_in L.f_law_terms_in.kp L.b_law_terms_in .nil pass0 (pa_cons (pv 0) (pa_cons (pv 2) pa_nil))))))))
        (pss_one (ps_for PassesOwn.never rfl (pi_tup (pv 1)) (pg_name (i := 2) scTin.nd rfl (.inl rfl))
          (pss_one (ps_expr (pe_call G_t (hr.mono (by omega)) (by rfl) L.g_law_terms_in L.f_law_terms_in.kp L.b_law_terms_in .nil pass0 (pa_cons (pv 0) (pa_cons (pv 2) pa_nil))))))))), ?_⟩
  have nt : NTup H l := .list hl
  rcases hp with ⟨rfl, hp⟩ | ⟨d1, ds, rfl, hn, hll⟩ | ⟨kd, fs, ss, ws', hk', rfl, rfl, hll⟩
  · have fin : Q .non H := q H [] Keep.rfl' (by rw [List.append_nil]; exact hl) .nil
    have scal : ∀ T : String, TyX K H v (.type T) → kitB T "tuple" = some false → (∃ x c t u b, [v, V.ty "tuple"] = [x, c] ∧ ClsV c u ∧ TyX K H x t ∧ PySem.W.kitOne K t u = some b ∧ b = false) := fun T h1 h2 => ⟨_, _, _, _, _, rfl, .ty _, h1, kit_ty h2, rfl⟩
    rcases hp with hp | rfl | rfl
    · have hty : ∃ T : String, TyX K H v (.type T) ∧ kitB T "tuple" = some false := by
        cases d0 with
        | str x =>
          cases tp_str hv
          exact ⟨"str", .base (.str _), by decide +kernel⟩
        | int x =>
          cases tp_int hv
          exact ⟨"int", .base (.int _), by decide +kernel⟩
        | bool x =>
          cases tp_bl hv
          exact ⟨"bool", .base (.bl _), by decide +kernel⟩
        | _ => exact hp.elim
      obtain ⟨T', h1, h2⟩ := hty
      exact ⟨_, rfl, _, _, _, _, false, rfl, .ty _, h1, kit_ty h2, _, rfl, ite2 (fun _ => iteT fin) (fun e => absurd rfl e)⟩
    · cases tp_non hv
      exact ⟨_, rfl, _, _, _, _, false, rfl, .ty _, .base .non, kit_ty (by decide +kernel), _, rfl, ite2 (fun _ => iteT fin) (fun e => absurd rfl e)⟩
    · obtain ⟨q0, xs, rfl, hs, hxs⟩ := tp_t hv
      cases tpa_n hxs
      exact ⟨_, rfl, _, _, _, _, true, rfl, .ty _, tyx_tup hs, kit_ty (by decide +kernel), _, rfl, ite2 (fun e => absurd e (by decide)) (fun _ => ⟨_, rfl, q0, _, rfl, .inr hs, rfl, _, rfl, ite2 (fun _ => fin) (fun e => absurd rfl e)⟩)⟩
  · obtain ⟨q0, xs, rfl, hs, hxs⟩ := tp_t hv
    obtain ⟨v1, r, rfl, hv1, hr2⟩ := tpa_c hxs
    obtain ⟨W, W0, Wn, Wf, Wl⟩ := hll.steps
    refine ⟨_, rfl, _, _, _, _, true, rfl, .ty _, tyx_tup hs, kit_ty (by decide +kernel), _, rfl, ite2 (fun e => absurd e (by decide)) (fun _ => ⟨_, rfl, q0, _, rfl, .inr hs, rfl, _, rfl, ite2 (fun e => absurd e (ne_len _ r)) (fun _ => ?_)⟩)⟩
    cases d1 with
    | str x =>
      cases tp_str hv1
      refine ⟨_, rfl, q0, _, _, (.str x), rfl, rfl, hs, atI_zero, _, _, _, _, true, rfl, .ty _, .base (.str _), kit_ty (by decide +kernel), _, rfl, ite2 (fun _ => ?_) (fun e => absurd rfl e)⟩
      refine ⟨_, rfl, q0, _, _, (.str x), rfl, rfl, hs, atI_zero, rfl, fun H1 y1 m1 k1 => ?_⟩
      refine ⟨_, _, rfl, .inr k1, rfl, kinds_flat, _, rfl, ite2 (fun e => absurd (e.symm.trans hn) (by decide)) (fun _ => ?_)⟩
      refine ⟨_, rfl, q0, rfl, ⟨_, (sqt_same m1 hs)⟩, for_tup (K := K) (a := q0) (xs := V.str x :: r) (fun i σ H' => ∃ (y2 : Option V) (zs : List V), σ = [some (.ref l), some (.ref q0), y2] ∧ Keep l H H' ∧ SqT K H' q0 (V.str x :: r) ∧ H' l = some (.lst (xs0 ++ zs)) ∧ TpAll K H' zs (W i)) ?_ ?_ ?_ ?_⟩
      · exact ⟨none, [], rfl, (Same.keep m1), (sqt_same m1 hs), by rw [List.append_nil]; exact (m1 _ _ hl), by rw [W0]; exact .nil⟩
      · rintro i σ H' _ ⟨y2, zs, rfl, kp, hq, hl', hx'⟩
        exact hq
      · rintro i xv σ H' ev ⟨y2, zs, rfl, kp, hq, hl', hx'⟩
        have hi : i < (PyData.str x :: ds).length := by
          have := (List.getElem?_eq_some_iff.mp ev).1
          have := tpa_len hxs
          omega
        obtain ⟨di, wi, g1, g2, g3⟩ := Wf i hi
        obtain ⟨v9, ev9, hvv⟩ := tpa_at hxs g1
        cases Option.some.inj (ev.symm.trans ev9)
        have hwl := Wl (i + 1) hi
        rw [g3, List.length_append] at hwl
        have hzl := tpa_len hx'
        refine ⟨_, rfl, _, rfl, l, xv, di, wi, xs0 ++ zs, rfl, hl', (tp_keep kp nt hvv), g2, (by rw [LIM_eq]; simp only [List.length_append, List.length_cons, List.length_nil] at hlen ⊢; omega), fun H3 xs3 k3 h3 t3 => ?_⟩
        exact ⟨_, zs ++ xs3, rfl, Keep.trans kp k3, sqt_keep k3 (.list hl') hq, by rw [h3, List.append_assoc], by rw [g3]; exact tpa_app (tpa_keep k3 (.list hl') hx') t3⟩
      · rintro σ H' ⟨y2, zs, rfl, kp, hq, hl', hx'⟩
        have e9 : (V.str x :: r).length = (PyData.str x :: ds).length := tpa_len hxs
        rw [e9, Wn] at hx'
        exact q H' zs kp hl' hx'
    | int x =>
      cases tp_int hv1
      refine ⟨_, rfl, q0, _, _, (.int x), rfl, rfl, hs, atI_zero, _, _, _, _, false, rfl, .ty _, .base (.int _), kit_ty (by decide +kernel), _, rfl, ite2 (fun e => absurd e (by decide)) (fun _ => iteF ?_)⟩
      refine ⟨_, rfl, q0, rfl, ⟨_, hs⟩, for_tup (K := K) (a := q0) (xs := V.int x :: r) (fun i σ H' => ∃ (y2 : Option V) (zs : List V), σ = [some (.ref l), some (.ref q0), y2] ∧ Keep l H H' ∧ SqT K H' q0 (V.int x :: r) ∧ H' l = some (.lst (xs0 ++ zs)) ∧ TpAll K H' zs (W i)) ?_ ?_ ?_ ?_⟩
      · exact ⟨none, [], rfl, Keep.rfl', hs, by rw [List.append_nil]; exact hl, by rw [W0]; exact .nil⟩
      · rintro i σ H' _ ⟨y2, zs, rfl, kp, hq, hl', hx'⟩
        exact hq
      · rintro i xv σ H' ev ⟨y2, zs, rfl, kp, hq, hl', hx'⟩
        have hi : i < (PyData.int x :: ds).length := by
          have := (List.getElem?_eq_some_iff.mp ev).1
          have := tpa_len hxs
          omega
        obtain ⟨di, wi, g1, g2, g3⟩ := Wf i hi
        obtain ⟨v9, ev9, hvv⟩ := tpa_at hxs g1
        cases Option.some.inj (ev.symm.trans ev9)
        have hwl := Wl (i + 1) hi
        rw [g3, List.length_append] at hwl
        have hzl := tpa_len hx'
        refine ⟨_, rfl, _, rfl, l, xv, di, wi, xs0 ++ zs, rfl, hl', (tp_keep kp nt hvv), g2, (by rw [LIM_eq]; simp only [List.length_append, List.length_cons, List.length_nil] at hlen ⊢; omega), fun H3 xs3 k3 h3 t3 => ?_⟩
        exact ⟨_, zs ++ xs3, rfl, Keep.trans kp k3, sqt_keep k3 (.list hl') hq, by rw [h3, List.append_assoc], by rw [g3]; exact tpa_app (tpa_keep k3 (.list hl') hx') t3⟩
      · rintro σ H' ⟨y2, zs, rfl, kp, hq, hl', hx'⟩
        have e9 : (V.int x :: r).length = (PyData.int x :: ds).length := tpa_len hxs
        rw [e9, Wn] at hx'
        exact q H' zs kp hl' hx'
    | tuple x =>
      obtain ⟨q1, x1, rfl, hs1, hx1⟩ := tp_t hv1
      refine ⟨_, rfl, q0, _, _, (.ref q1), rfl, rfl, hs, atI_zero, _, _, _, _, false, rfl, .ty _, tyx_tup hs1, kit_ty (by decide +kernel), _, rfl, ite2 (fun e => absurd e (by decide)) (fun _ => iteF ?_)⟩
      refine ⟨_, rfl, q0, rfl, ⟨_, hs⟩, for_tup (K := K) (a := q0) (xs := V.ref q1 :: r) (fun i σ H' => ∃ (y2 : Option V) (zs : List V), σ = [some (.ref l), some (.ref q0), y2] ∧ Keep l H H' ∧ SqT K H' q0 (V.ref q1 :: r) ∧ H' l = some (.lst (xs0 ++ zs)) ∧ TpAll K H' zs (W i)) ?_ ?_ ?_ ?_⟩
      · exact ⟨none, [], rfl, Keep.rfl', hs, by rw [List.append_nil]; exact hl, by rw [W0]; exact .nil⟩
      · rintro i σ H' _ ⟨y2, zs, rfl, kp, hq, hl', hx'⟩
        exact hq
      · rintro i xv σ H' ev ⟨y2, zs, rfl, kp, hq, hl', hx'⟩
        have hi : i < (PyData.tuple x :: ds).length := by
          have := (List.getElem?_eq_some_iff.mp ev).1
          have := tpa_len hxs
          omega
        obtain ⟨di, wi, g1, g2, g3⟩ := Wf i hi
        obtain ⟨v9, ev9, hvv⟩ := tpa_at hxs g1
        cases Option.some.inj (ev.symm.trans ev9)
        have hwl := Wl (i + 1) hi
        rw [g3, List.length_append] at hwl
        have hzl := tpa_len hx'
        refine ⟨_, rfl, _, rfl, l, xv, di, wi, xs0 ++ zs, rfl, hl', (tp_keep kp nt hvv), g2, (by rw [LIM_eq]; simp only [List.length_append, List.length_cons, List.length_nil] at hlen ⊢; omega), fun H3 xs3 k3 h3 t3 => ?_⟩
        exact ⟨_, zs ++ xs3, rfl, Keep.trans kp k3, sqt_keep k3 (.list hl') hq, by rw [h3, List.append_assoc], by rw [g3]; exact tpa_app (tpa_keep k3 (.list hl') hx') t3⟩
      · rintro σ H' ⟨y2, zs, rfl, kp, hq, hl', hx'⟩
        have e9 : (V.ref q1 :: r).length = (PyData.tuple x :: ds).length := tpa_len hxs
        rw [e9, Wn] at hx'
        exact q H' zs kp hl' hx'
    | _ => exact hn.elim
  · have hv0 := hv
    obtain ⟨q0, r, rfl, hs, ha⟩ := tp_head hv
    obtain ⟨W, W0, Wn, Wf, Wl⟩ := hll.steps
    refine ⟨_, rfl, _, _, _, _, true, rfl, .ty _, tyx_tup hs, kit_ty (by decide +kernel), _, rfl, ite2 (fun e => absurd e (by decide)) (fun _ => ⟨_, rfl, q0, _, rfl, .inr hs, rfl, _, rfl, ite2 (fun e => absurd e (ne_len _ r)) (fun _ => ?_)⟩)⟩
    refine ⟨_, rfl, q0, _, _, (.str kd), rfl, rfl, hs, atI_zero, _, _, _, _, true, rfl, .ty _, .base (.str _), kit_ty (by decide +kernel), _, rfl, ite2 (fun _ => ?_) (fun e => absurd rfl e)⟩
    refine ⟨_, rfl, q0, _, _, (.str kd), rfl, rfl, hs, atI_zero, rfl, fun H1 y1 m1 k1 => ?_⟩
    refine ⟨_, _, rfl, .inr k1, rfl, kinds_flat, _, rfl, ite2 (fun _ => ?_) (fun e => absurd (kinds_in kd ss hk') e)⟩
    have hl1 := m1 _ _ hl
    refine ⟨_, rfl, .inl ⟨rfl, _, SqL.of hl1⟩, _, rfl, l, xs0, _, rfl, rfl, hl1, (by rw [sizeLine_eq]; simp only [List.length_cons] at hlen; omega), ?_⟩
    refine ⟨_, rfl, _, kd, fs, rfl, tp_lst hl1 (tp_same m1 hv0), fun H3 y3 xs3 m3 s3 t3 => ?_⟩
    refine ⟨y3, rfl, ⟨_, s3⟩, for_tup (K := K) (a := y3) (xs := xs3) (fun i σ H' => ∃ (y2 : Option V) (zs : List V), σ = [some (.ref l), some (.ref q0), y2] ∧ Keep l H H' ∧ Keep l H3 H' ∧ SqT K H' y3 (xs3) ∧ H' l = some (.lst ((xs0 ++ [.ref q0]) ++ zs)) ∧ TpAll K H' zs (W i)) ?_ ?_ ?_ ?_⟩
    · exact ⟨none, [], rfl, (Keep.trans (Same.keep m1) (Keep.trans keep_upd (Same.keep m3))), Keep.rfl', s3, by rw [List.append_nil]; exact (m3 _ _ upd_same), by rw [W0]; exact .nil⟩
    · rintro i σ H' _ ⟨y2, zs, rfl, kp, kp3, hq, hl', hx'⟩
      exact hq
    · rintro i xv σ H' ev ⟨y2, zs, rfl, kp, kp3, hq, hl', hx'⟩
      have hi : i < (fs.drop (cutN kd)).length := by
        have := (List.getElem?_eq_some_iff.mp ev).1
        have := tpa_len t3
        omega
      obtain ⟨di, wi, g1, g2, g3⟩ := Wf i hi
      obtain ⟨v9, ev9, hvv⟩ := tpa_at t3 g1
      cases Option.some.inj (ev.symm.trans ev9)
      have hwl := Wl (i + 1) hi
      rw [g3, List.length_append] at hwl
      have hzl := tpa_len hx'
      refine ⟨_, rfl, _, rfl, l, xv, di, wi, (xs0 ++ [.ref q0]) ++ zs, rfl, hl', (tp_keep kp3 (.list (m3 _ _ upd_same)) hvv), g2, (by rw [LIM_eq]; simp only [List.length_append, List.length_cons, List.length_nil] at hlen ⊢; omega), fun H4 us3 k3 h3 w3 => ?_⟩
      exact ⟨_, zs ++ us3, rfl, Keep.trans kp k3, Keep.trans kp3 k3, sqt_keep k3 (.list hl') hq, by rw [h3, List.append_assoc], by rw [g3]; exact tpa_app (tpa_keep k3 (.list hl') hx') w3⟩
    · rintro σ H' ⟨y2, zs, rfl, kp, kp3, hq, hl', hx'⟩
      have e9 : (xs3).length = (fs.drop (cutN kd)).length := tpa_len t3
      rw [e9, Wn] at hx'
      exact q H' ([.ref q0] ++ zs) kp (by rw [hl', List.append_assoc]) (.cons (tp_keep kp nt hv0) hx')
end
end My
namespace My
open PySem L2 SX CwR RZ StX
open C8 (pss_cut tCut cutS_slice pe_gc)
/-! ### depth of what is found -/
theorem gd_tup {N : Nat} {ds : List D} (h : Gd N (.tuple ds)) : ∃ M, N = M + 1 ∧ GdA M ds := by
  cases N with
  | zero =>
    have := h.2
    exact absurd this (Nat.not_succ_le_zero _)
  | succ M => exact ⟨M, rfl, h.1, Nat.le_of_succ_le_succ h.2⟩
theorem gda_inv {N : Nat} {d : D} {ds : List D} (h : GdA N (d :: ds)) : Gd N d ∧ GdA N ds := by
  have h1 := Bool.and_eq_true_iff.mp h.1
  have h3 := Nat.max_le.mp h.2
  exact ⟨⟨h1.1, h3.1⟩, h1.2, h3.2⟩
section
variable {T : TR} {N : Nat}
def GQ (N : Nat) (qs : List (D × List D)) : Prop := ∀ p ∈ qs, Gd N p.1
theorem gq_nil : GQ N [] := fun p h => by cases h
theorem gq_cons {p : D × List D} {qs} (h : Gd N p.1) (a : GQ N qs) : GQ N (p :: qs) := fun q hq => by
  rcases List.mem_cons.mp hq with rfl | hq
  · exact h
  · exact a q hq
theorem gq_app {p q} (h : GQ N p) (a : GQ N q) : GQ N (p ++ q) := fun x hx => by
  rcases List.mem_append.mp hx with hx | hx
  · exact h x hx
  · exact a x hx
theorem tl_gd : ∀ {ds qs es}, TL T ds qs es → GdA N ds → GQ N qs
  | _, _, _, .nil, _ => gq_nil
  | _, _, _, .cons h a, g => gq_cons (gda_inv g).1 (tl_gd a (gda_inv g).2)
theorem pl_gd : ∀ {ds qs es}, PL T ds qs es → GdA N ds → GQ N qs
  | _, _, _, .nil, _ => gq_nil
  | _, _, _, .cons h i a, g => by
    obtain ⟨M, e, gp⟩ := gd_tup (gda_inv g).1
    have g1 := gda_inv gp
    exact gq_cons (g1.1.up (by omega)) (gq_cons ((gda_inv g1.2).1.up (by omega)) (pl_gd a (gda_inv g).2))
theorem ml_gd : ∀ {ds qs es}, ML T ds qs es → GdA N ds → GQ N qs
  | _, _, _, .nil, _ => gq_nil
  | _, _, _, .cons h a, g => by
    obtain ⟨M, e, gp⟩ := gd_tup (gda_inv g).1
    exact gq_cons ((gda_inv (gda_inv (gda_inv gp).2).2).1.up (by omega)) (ml_gd a (gda_inv g).2)
theorem hl_gd : ∀ {ds qs es}, HL T ds qs es → GdA N ds → GQ N qs
  | _, _, _, .nil, _ => gq_nil
  | _, _, _, .cons hx h a, g => by
    obtain ⟨M, e, gp⟩ := gd_tup (gda_inv g).1
    exact gq_cons ((gda_inv (gda_inv gp).2).1.up (by omega)) (hl_gd a (gda_inv g).2)
theorem ff_gd {s d q e} (h : FF T s d q e) (g : Gd N d) : GQ N q := by
  cases h with
  | term h => exact gq_cons g gq_nil
  | som h => exact gq_cons g gq_nil
  | terms h =>
    obtain ⟨M, rfl, gp⟩ := gd_tup g
    exact fun p hp => (tl_gd h gp p hp).up (by omega)
  | pairs h =>
    obtain ⟨M, rfl, gp⟩ := gd_tup g
    exact fun p hp => (pl_gd h gp p hp).up (by omega)
  | members h =>
    obtain ⟨M, rfl, gp⟩ := gd_tup g
    exact fun p hp => (ml_gd h gp p hp).up (by omega)
  | methods h =>
    obtain ⟨M, rfl, gp⟩ := gd_tup g
    exact fun p hp => (hl_gd h gp p hp).up (by omega)
  | _ => exact gq_nil
theorem ffs_gd : ∀ {ss ds qs es}, FFs T ss ds qs es → GdA N ds → GQ N qs
  | _, _, _, _, .nil, _ => gq_nil
  | _, _, _, _, .cons h a, g => gq_app (ff_gd h (gda_inv g).1) (ffs_gd a (gda_inv g).2)
/-- each part's walk is a walk -/
def AQ (T : TR) (qs : List (D × List D)) : Prop := ∀ p ∈ qs, ∃ e, T p.1 p.2 e
theorem aq_nil : AQ T [] := fun p h => by cases h
theorem aq_cons {d w e} {qs} (h : T d w e) (a : AQ T qs) : AQ T ((d, w) :: qs) := fun q hq => by
  rcases List.mem_cons.mp hq with rfl | hq
  · exact ⟨e, h⟩
  · exact a q hq
theorem tl_aq : ∀ {ds qs es}, TL T ds qs es → AQ T qs
  | _, _, _, .nil => aq_nil
  | _, _, _, .cons h a => aq_cons h (tl_aq a)
theorem pl_aq : ∀ {ds qs es}, PL T ds qs es → AQ T qs
  | _, _, _, .nil => aq_nil
  | _, _, _, .cons h i a => aq_cons h (aq_cons i (pl_aq a))
theorem ml_aq : ∀ {ds qs es}, ML T ds qs es → AQ T qs
  | _, _, _, .nil => aq_nil
  | _, _, _, .cons h a => aq_cons h (ml_aq a)
theorem hl_aq : ∀ {ds qs es}, HL T ds qs es → AQ T qs
  | _, _, _, .nil => aq_nil
  | _, _, _, .cons _ h a => aq_cons h (hl_aq a)
theorem ff_aq {s d q e} (h : FF T s d q e) : AQ T q := by
  cases h with
  | term h => exact aq_cons h aq_nil
  | som h => exact aq_cons h aq_nil
  | terms h => exact tl_aq h
  | pairs h => exact pl_aq h
  | members h => exact ml_aq h
  | methods h => exact hl_aq h
  | _ => exact aq_nil
theorem ffs_aq : ∀ {ss ds qs es}, FFs T ss ds qs es → AQ T qs
  | _, _, _, _, .nil => aq_nil
  | _, _, _, _, .cons h a => fun x hx => by
    rcases List.mem_append.mp hx with hx | hx
    · exact ff_aq h x hx
    · exact ffs_aq a x hx
end
theorem flat_gd {N : Nat} : ∀ {qs : List (D × List D)}, (∀ p ∈ qs, GdA N p.2) → GdA N (flat qs)
  | [], _ => gdn
  | (d, w) :: qs, h => gda_app (h _ (List.mem_cons_self ..)) (flat_gd fun p hp => h p (List.mem_cons_of_mem _ hp))
theorem tt_gd : ∀ (n : Nat) {d w e} {N : Nat}, TT n d w e → Gd N d → GdA N w
  | 0, _, _, _, _, h, _ => h.elim
  | n + 1, _, _, _, N, ⟨k, fs, ss, qs, es, h1, rfl, h3, rfl, h5⟩, g => by
    obtain ⟨M, rfl, gp⟩ := gd_tup g
    have gq := ffs_gd h3 (gda_inv gp).2
    refine gdc g (flat_gd fun p hp => ?_)
    obtain ⟨e, t⟩ := ffs_aq h3 p hp
    exact tt_gd n t ((gq p hp).up (by omega))
theorem flat_take {qs : List (D × List D)} {i : Nat} {p : D × List D} (h : qs[i]? = some p) : flat (qs.take (i + 1)) = flat (qs.take i) ++ p.2 := by
  rw [take_snoc h, flat_app]
  congr 1
  exact List.append_nil _
theorem flat_take_le (qs : List (D × List D)) (i : Nat) : (flat (qs.take i)).length ≤ (flat qs).length := by
  have : flat qs = flat (qs.take i) ++ flat (qs.drop i) := by rw [← flat_app, List.take_append_drop]
  rw [this, List.length_append]
  exact Nat.le_add_right _ _
/-! ### _law_walk -/
def spWk (K : PySem.W.Frag) (n : Nat) : Sp := fun vs H Q _ => ∃ (l : Addr) (v : V) (d : D) (w : List D) (e : D) (xs0 : List V), vs = [.ref l, v] ∧ H l = some (.lst xs0) ∧ Tp K H v d ∧ TT n d w e ∧ xs0.length + w.length ≤ LIM ∧
  ∀ H' xs, Keep l H H' → H' l = some (.lst (xs0 ++ xs)) → TpAll K H' xs w → Q .non H'
section
variable {P : Program} {ww : World} {K : PySem.W.Frag} {mg : Str → Option Value} {base : Heap} {a : Nat → Addr} {d : Nat → FuncData} {b : Nat → Addr} {c : Nat → FuncData}
theorem scWalk : FnScope ["found", "term", "part"] ["found", "term"] (defScope (top 38)) := ⟨rfl, rfl, rfl, by decide +kernel, rfl, by decide +kernel, by decide +kernel⟩
theorem ok_walk {n k : Nat} (L : TS' K mg a d) (R : TPr K mg b c) (G_p : FnOk P ww K mg base CX0 k (b 0) (c 0) ["term"] (spPO K (TT n))) (G_w : FnOk P ww K mg base CX0 k (a 3) (d 3) ["found", "term"] (spWk K n)) : FnOk P ww K mg base CX0 (k + 1) (a 3) (d 3) ["found", "term"] (spWk K (n + 1)) := by
  refine L.f_law_walk.ok scWalk (fun vs H Q E h => by obtain ⟨l, v, d, w, e, xs0, rfl, _⟩ := h; rfl) (fun cdv A outer s H vs Q E hr h => ?_)
  obtain ⟨l, v, d0, w0, e0, xs0, rfl, hl, hv, ⟨kd, fs, ss, qs, es, hk, rfl, hf, rfl, rfl⟩, hlen, q⟩ := h
  rw [LIM_eq, List.length_cons] at hlen
  refine ⟨_, pss_cons (ps_expr (pe_bm PySem.F.plainAttrs_list PySem.F.slot_list_append PySem.F.type_list_append mt_append (pv 0) (pa_cons (pv 1) pa_nil)))
      (pss_one (ps_for PassesOwn.never rfl (pi_list (pe_call G_p (hr.mono (by omega)) (by rfl) R.gparts_of R.fparts_of.kp R.bparts_of .nil pass0 (pa_cons (pv 1) pa_nil))) (pg_name (i := 2) scWalk.nd rfl (.inl rfl))
        (pss_one (ps_expr (pe_call G_w (hr.mono (by omega)) (by rfl) L.g_law_walk L.f_law_walk.kp L.b_law_walk .nil pass0 (pa_cons (pv 0) (pa_cons (pv 2) pa_nil))))))), ?_⟩
  have nt : NTup H l := .list hl
  have hql := hf.len (tt_good n)
  refine ⟨_, rfl, .inl ⟨rfl, _, SqL.of hl⟩, _, rfl, l, xs0, _, rfl, rfl, hl, (by rw [sizeLine_eq]; omega), ?_⟩
  refine ⟨_, rfl, v, kd, fs, ss, qs, es, rfl, tp_lst hl hv, hk, hf, (by rw [LIM_eq]; omega), fun H3 pl xs m3 np h3 t3 => ?_⟩
  have npl : pl ≠ l := fun z => by
    rw [z, upd_same] at np
    cases np
  have hxl : xs.length = qs.length := by rw [tpa_len t3, List.length_map]
  refine ⟨pl, rfl, ⟨_, SqL.of h3⟩, for_list (K := K) (a := pl) (xs := xs) (fun i σ H' => ∃ (y2 : Option V) (zs : List V), σ = [some (.ref l), some v, y2] ∧ Keep l H H' ∧ Keep l H3 H' ∧ H' l = some (.lst (xs0 ++ [v] ++ zs)) ∧ TpAll K H' zs (flat (qs.take i))) ?_ ?_ ?_ ?_⟩
  · exact ⟨none, [], rfl, Keep.trans keep_upd (Same.keep m3), Keep.rfl', by rw [List.append_nil]; exact m3 _ _ upd_same, .nil⟩
  · rintro i σ H' _ ⟨y2, zs, rfl, kp, kp3, hl', hx'⟩
    exact SqL.of (kp3 _ _ h3 npl)
  · rintro i xv σ H' ev ⟨y2, zs, rfl, kp, kp3, hl', hx'⟩
    have hi : i < qs.length := by
      have := (List.getElem?_eq_some_iff.mp ev).1
      omega
    have g1 : qs[i]? = some qs[i] := List.getElem?_eq_getElem hi
    have g2 : (qs.map (·.1))[i]? = some qs[i].1 := by
      rw [List.getElem?_map, g1]
      rfl
    obtain ⟨v9, ev9, hvv⟩ := tpa_at t3 g2
    cases Option.some.inj (ev.symm.trans ev9)
    obtain ⟨e, tt⟩ := ffs_aq hf qs[i] (List.getElem_mem hi)
    have f1 := flat_take g1
    have f2 := flat_take_le qs (i + 1)
    rw [f1, List.length_append] at f2
    have hzl := tpa_len hx'
    refine ⟨_, rfl, _, rfl, l, xv, qs[i].1, qs[i].2, e, xs0 ++ [v] ++ zs, rfl, hl', tp_keep kp3 (.list (m3 _ _ upd_same)) hvv, tt, (by rw [LIM_eq]; simp only [List.length_append, List.length_cons, List.length_nil]; omega), fun H4 us k4 h4 t4 => ?_⟩
    exact ⟨_, zs ++ us, rfl, Keep.trans kp k4, Keep.trans kp3 k4, by rw [h4, List.append_assoc], by rw [f1]; exact tpa_app (tpa_keep k4 (.list hl') hx') t4⟩
  · rintro σ H' ⟨y2, zs, rfl, kp, kp3, hl', hx'⟩
    rw [hxl, List.take_length] at hx'
    exact q H' ([v] ++ zs) kp (by rw [hl', List.append_assoc]) (.cons (tp_keep kp nt hv) hx')
theorem ok_walks (L : TS' K mg a d) (R : TPr K mg b c) (Z : KSh K ww mg) (B : Bl mg) : ∀ n, FnOk P ww K mg base CX0 (n + 2) (a 3) (d 3) ["found", "term"] (spWk K n)
  | 0 => ⟨fun vs H Q E ⟨_, _, _, _, _, _, _, _, _, h, _⟩ => h.elim, fun _ _ _ _ _ _ _ _ _ _ _ _ _ ⟨_, _, _, _, _, _, _, _, _, h, _⟩ => h.elim⟩
  | n + 1 => ok_walk L R ((ok_parts_of R Z B (tt_good n) (ok_terms_in R B (tt_good n))).mono (by omega)) (ok_walks L R Z B n)
theorem ok_tins (L : TS' K mg a d) (B : Bl mg) : ∀ m, FnOk P ww K mg base CX0 (m + 1) (a 1) (d 1) ["found", "part"] (spTin K m)
  | 0 => ⟨fun vs H Q E ⟨_, _, _, _, _, _, _, _, h, _⟩ => h.elim, fun _ _ _ _ _ _ _ _ _ _ _ _ _ ⟨_, _, _, _, _, _, _, _, h, _⟩ => h.elim⟩
  | m + 1 => ok_tin (by omega) L B (ok_tins L B m)
end
end My
namespace My
open PySem L2 SX CwR RZ StX
open C8 (pss_cut tCut cutS_slice pe_gc)
/-! ### the law -/
theorem ok_ex {P : Program} {w : World} {K : PySem.W.Frag} {mg : Str → Option Value} {base : Heap} {k : Nat} {f : Addr} {fd : FuncData} {ps : List Str} {N : Nat} {sp : Nat → Sp} (h : ∀ n, n ≤ N → FnOk P w K mg base CX0 k f fd ps (sp n)) :
    FnOk P w K mg base CX0 k f fd ps (fun vs H Q E => ∃ n, n ≤ N ∧ sp n vs H Q E) :=
  ⟨fun vs H Q E ⟨n, hn, s⟩ => (h n hn).len vs H Q E s, fun A o s H args us vs Q E hr he hb hv ⟨n, hn, sp⟩ => (h n hn).run A o s H args us vs Q E hr he hb hv sp⟩
theorem mk_state (pr : Addr) : mergeK [] [((.inr "rows" : Key), V.ref pr), (.inr "at", .int 0), (.inr "number", .int 1)] = stK pr 0 1 := by
  have h1 : ¬ ((.inr "rows" : Key) = .inr "at") := by decide +kernel
  have h2 : ¬ ((.inr "rows" : Key) = .inr "number") := by decide +kernel
  have h3 : ¬ ((.inr "at" : Key) = .inr "number") := by decide +kernel
  unfold mergeK stK
  simp [putK, h1, h2, h3]
theorem gda_list {N : Nat} {ds : List D} (h : GdA N ds) (hn : N + 1 ≤ 64) : SeqAt.shaped (.list ds) = true ∧ (PyData.list ds).canLay0 = true := by
  have g : Gd (N + 1) (.list ds) := ⟨h.1, Nat.succ_le_succ h.2⟩
  exact ⟨g.shaped hn, g.1⟩
def spLaw (K : PySem.W.Frag) : Sp := fun vs H Q _ => ∃ (a : Addr) (ns : List Int), vs = [.ref a] ∧ SqL K H a (ns.map V.int) ∧ ns.length ≤ 63 ∧ ∀ H', Q (.bl true) H'
section
variable {P : Program} {w : World} {K : PySem.W.Frag} {mg : Str → Option Value} {base : Heap} {aDraw aLeaf aTerms aExpression aCompound aAssignment aFunction aBlock aItem aMember aStatement aConditional : Addr} {dDraw dLeaf dTerms dExpression dCompound dAssignment dFunction dBlock dItem dMember dStatement dConditional : FuncData}
variable {wa sa pa : Nat → Addr} {wd sd pd : Nat → FuncData} {aR f : Addr} {dR fd : FuncData}
theorem scLaw : FnScope ["script", "state", "drawn", "tree", "due", "found"] ["script"] (defScope (top 39)) := ⟨rfl, rfl, rfl, by decide +kernel, rfl, by decide +kernel, by decide +kernel⟩
theorem ok_law (F : Fun K "law" "law" (top 39) f fd) (D : TD K mg aDraw aLeaf aTerms aExpression aCompound aAssignment aFunction aBlock aItem aMember aStatement aConditional dDraw dLeaf dTerms dExpression dCompound dAssignment dFunction dBlock dItem dMember dStatement dConditional) (Wr : TW K mg wa wd) (R : TPr K mg pa pd) (Se : TS' K mg sa sd) (Z : KSh K w mg) (B : Bl mg)
    (FR : Fun K "_law_rows" "_law_rows" sRows aR dR) (bR : Binds K dR ["script", "count"] []) (gR : mg "_law_rows" = some (.ref aR)) : FnOk P w K mg base CX0 60 f fd ["script"] (spLaw K) := by
  have G_rows : FnOk P w K mg base CX0 1 aR dR ["script", "count"] (spRows K) := ok_rows FR B
  have G_draw : FnOk P w K mg base CX0 1 aDraw dDraw ["state", "count"] spDraw := ok_draw D.f_law_draw B
  have G_block : FnOk P w K mg base CX0 48 aBlock dBlock ["state", "deep"] (fun vs H Q E => ∃ n, n ≤ 3 ∧ spBl K n vs H Q E) := ok_ex fun n hn => (ok_levels D B n hn).2.2.mono (by omega)
  have G_items : FnOk P w K mg base CX0 48 (wa 8) (wd 8) ["items", "at"] (fun vs H Q E => ∃ n, n ≤ 3 ∧ spW K (ItsR (ItV n)) vs H Q E) := ok_ex fun n hn => (ok_wlevels Wr B n).2.2.2.mono (by omega)
  have G_tin : FnOk P w K mg base CX0 58 (sa 1) (sd 1) ["found", "part"] (spTin K 51) := (ok_tins Se B 51).mono (by decide)
  have G_walk : FnOk P w K mg base CX0 58 (sa 3) (sd 3) ["found", "term"] (spWk K 17) := (ok_walks Se R Z B 17).mono (by decide)
  have G_po : FnOk P w K mg base CX0 2 (pa 0) (pd 0) ["term"] (spPO K (TT 16)) := ok_parts_of R Z B (tt_good 16) (ok_terms_in R B (tt_good 16))
  have G_wo : FnOk P w K mg base CX0 51 (pa 2) (pd 2) ["term"] (spWO K (TT 17)) := ok_bares R Z B 17
  refine F.ok scLaw (fun vs H Q E h => by obtain ⟨a, ns, rfl, _⟩ := h; rfl) (fun cdv A outer s H vs Q E hr h => ?_)
  obtain ⟨a, ns, rfl, hS, hns, q⟩ := h
  refine ⟨_, pss_cons (ps_set (i := 1) scLaw.nd rfl (.inl rfl) (pe_disp (pps_cons pe_str (pe_call G_rows (hr.mono (by decide)) (by rfl) gR FR.kp bR .nil pass0 (pa_cons (pv 0) (pa_cons pe_int pa_nil))) (pps_cons pe_str pe_int (pps_cons pe_str pe_int pps_nil))) (by rfl) (by rfl) (fun z => by cases z) (by decide)))
      (pss_cons (ps_set (i := 2) scLaw.nd rfl (.inl rfl) (pe_call G_block (hr.mono (by decide)) (by rfl) D.g_law_block D.f_law_block.kp D.b_law_block .nil pass0 (pa_cons (pv 1) (pa_cons (pe_op op_add pe_int (pe_call G_draw (hr.mono (by decide)) (by rfl) D.g_law_draw D.f_law_draw.kp D.b_law_draw .nil pass0 (pa_cons (pv 1) (pa_cons pe_int pa_nil)))) pa_nil))))
      (pss_cons (ps_set (i := 3) scLaw.nd rfl (.inl rfl) (pe_tup (pa_cons pe_str (pa_cons (pe_ix ix_list (pe_call G_items (hr.mono (by decide)) (by rfl) Wr.g_law_items Wr.f_law_items.kp Wr.b_law_items .nil pass0 (pa_cons (pe_ix ix_tup (pv 2) pe_int (fun _ _ => rfl)) (pa_cons pe_int pa_nil))) pe_int (fun _ _ => rfl)) pa_nil))))
      (pss_cons (ps_set (i := 4) scLaw.nd rfl (.inl rfl) (pe_lst pa_nil))
      (pss_cons (ps_expr (pe_call G_tin (hr.mono (by decide)) (by rfl) Se.g_law_terms_in Se.f_law_terms_in.kp Se.b_law_terms_in .nil pass0 (pa_cons (pv 4) (pa_cons (pv 3) pa_nil))))
      (pss_cons (ps_set (i := 5) scLaw.nd rfl (.inl rfl) (pe_lst pa_nil))
      (pss_cons (ps_expr (pe_call G_walk (hr.mono (by decide)) (by rfl) Se.g_law_walk Se.f_law_walk.kp Se.b_law_walk .nil pass0 (pa_cons (pv 5) (pa_cons (pv 3) pa_nil))))
      (pss_cons (ps_if (PW.pt (pw_or (pt_cmpR (op_neD hr.units) (pv 5) (pv 4) (nomark _)) (pw_or1 (pt_not (pt_val (pe_callB call_isi (by rfl) B.isinstance (by decide +kernel) (pa_cons (pe_call G_po (hr.mono (by decide)) (by rfl) R.gparts_of R.fparts_of.kp R.bparts_of .nil pass0 (pa_cons (pv 3) pa_nil)) (pa_cons (pe_bltn (v := .ty "list") (by rfl) B.list (by decide +kernel) rfl) pa_nil))))))))
        (pss_one (ps_ret pe_bl))
        pss_nil)
      (pss_one (ps_ret (pe_andT (pe_cmpR (op_eqD hr.units) (pe_call G_wo (hr.mono (by decide)) (by rfl) R.gwithout_offsets R.fwithout_offsets.kp R.bwithout_offsets .nil pass0 (pa_cons (pv 3) pa_nil)) (pv 2) (nomark _)) (pe_one (pe_cmpR (op_eqD hr.units) (pe_call G_wo (hr.mono (by decide)) (by rfl) R.gwithout_offsets R.fwithout_offsets.kp R.bwithout_offsets .nil pass0 (pa_cons (pv 2) pa_nil)) (pv 2) (nomark _))))))))))))), ?_⟩
  -- the state
  intro p np
  refine ⟨_, rfl, a, ns, 60, rfl, (same_upd np).seq hS, hns, by decide, fun H1 pr rs m1 nr e1 l1 => ?_⟩
  refine ⟨m1 _ _ upd_same, [((.inr "rows" : Key), V.ref pr), (.inr "at", .int 0), (.inr "number", .int 1)], rfl, by show 3 ≤ 15; decide, ?_⟩
  rw [mk_state]
  have nrp : pr ≠ p := fun z => by
    rw [z, upd_same] at nr
    cases nr
  have st2 : SD p 0 1 (upd H1 p (.dK (stK pr 0 1))) := ⟨pr, rs, upd_same, by rw [upd_ne nrp]; exact e1, l1, by decide⟩
  -- the draws
  refine ⟨_, rfl, _, rfl, p, 0, 1, 3, rfl, st2, by decide, by decide, fun H3 i k3 st3 i0 i3 => ?_⟩
  obtain ⟨j, rfl⟩ : ∃ j : Nat, i = (j : Int) := ⟨i.toNat, by omega⟩
  have hj : j ≤ 2 := by omega
  have dm : [V.ref p, V.int (1 + (j : Int))] = [V.ref p, V.int ((j + 1 : Nat) : Int)] := by rw [show ((j + 1 : Nat) : Int) = 1 + (j : Int) by omega]
  have hcap : (0 : Int) + 1 + cB (j + 1) ≤ BIG := by
    have : j = 0 ∨ j = 1 ∨ j = 2 := by omega
    rcases this with rfl | rfl | rfl <;> decide
  refine ⟨_, _, rfl, rfl, j + 1, by omega, p, 0 + 1, 1, dm, st3, hcap, fun H4 v d at4 num4 k4 st4 b1 b2 hv hd => ?_⟩
  have hlB : lB (j + 1) ≤ 2000000 := by
    have : j = 0 ∨ j = 1 ∨ j = 2 := by omega
    rcases this with rfl | rfl | rfl <;> decide
  have hcapN : capN (j + 1) ≤ 52 := by
    unfold capN
    omega
  obtain ⟨s0, d', wB⟩ := hd (-1)
  obtain ⟨w0, wk, t0, t1, l0, lk⟩ := (lv_rt (j + 1)).2.2.ok wB
  obtain ⟨gd0, gd1, ls⟩ := (lv_ok (j + 1)).2.2.ok wB
  replace t0 := TT.up (show 5 * (j + 1) + 2 ≤ 17 by omega) t0
  replace t1 := TT.up (show 5 * (j + 1) + 2 ≤ 17 by omega) t1
  replace gd0 := gd0.up hcapN
  replace gd1 := gd1.up hcapN
  rw [lvB_eq] at wB
  cases wB with
  | @mk _ is _ _ s1 is' hl3 hg wI =>
  have hs1 : s1.length ≤ LIM := by
    simp only [List.length_append, List.length_cons, List.length_nil] at ls
    rw [LIM_eq]
    omega
  have l0' : w0.length ≤ LIM := by
    rw [LIM_eq]
    omega
  have lk' : wk.length ≤ LIM := by
    rw [LIM_eq]
    omega
  have wI' : IW (ItV (j + 1)) [10] 1 is num4 0 s1 is' := wI
  obtain ⟨qd, v1, rfl, hsd, hv1⟩ := tp_1 (k := "block") (a := .tuple is) hv
  -- the tree
  refine ⟨_, rfl, qd, _, _, v1, rfl, rfl, hsd, rfl, j + 1, by omega, v1, .tuple is, 1, num4, 0, s1, .tuple is', rfl, hv1, ⟨is, is', rfl, rfl, hl3, wI'⟩, hs1, fun H5 y5 v5 m5 t5 h5 => ?_⟩
  refine ⟨_, _, _, v5, rfl, rfl, SqL.of t5, rfl, (by show 2 ≤ sizeLine; decide), fun y6 n6 => ?_⟩
  have tr6 : Tp K (upd H5 y6 (.tup [.str "block", v5])) (.ref y6) (dBlk is') := tp_new n6 (.cons (.str _) (.cons h5 .nil))
  have dr6 : Tp K (upd H5 y6 (.tup [.str "block", v5])) (.ref qd) (dBlk is) := tp_same (Same.ly m5 n6) hv
  generalize upd H5 y6 (.tup [.str "block", v5]) = H6 at tr6 dr6
  -- due, found
  refine ⟨Nat.zero_le _, fun c1 nc1 => ?_⟩
  refine ⟨_, rfl, _, rfl, c1, .ref y6, dBlk is', wk, [], rfl, upd_same, tp_same (same_upd nc1) tr6, tt_pw 17 t1, (by simpa using lk'), fun H7 xs7 k7 h7 x7 => ?_⟩
  have nt1 : NTup (upd H6 c1 (.lst [])) c1 := .list upd_same
  have tr7 := tp_keep k7 nt1 (tp_same (same_upd nc1) tr6)
  have dr7 := tp_keep k7 nt1 (tp_same (same_upd nc1) dr6)
  refine ⟨Nat.zero_le _, fun c2 nc2 => ?_⟩
  refine ⟨_, rfl, _, rfl, c2, .ref y6, dBlk is', wk, dBlk is, [], rfl, upd_same, tp_same (same_upd nc2) tr7, t1, (by simpa using lk'), fun H8 xs8 k8 h8 x8 => ?_⟩
  have nt2 : NTup (upd H7 c2 (.lst [])) c2 := .list upd_same
  have tr8 := tp_keep k8 nt2 (tp_same (same_upd nc2) tr7)
  have dr8 := tp_keep k8 nt2 (tp_same (same_upd nc2) dr7)
  have n12 : c1 ≠ c2 := fun z => by
    rw [← z, h7] at nc2
    cases nc2
  have h18 : H8 c1 = some (.lst ([] ++ xs7)) := k8 _ _ (same_upd nc2 _ _ h7) n12
  have x78 := tpa_keep k8 nt2 (tpa_same (same_upd nc2) x7)
  -- the same rows
  have gw := tt_gd 17 t1 gd1
  obtain ⟨shw, lyw⟩ := gda_list gw (by decide)
  have sh0 := gd0.shaped (by decide)
  refine ⟨_, rfl, _, rfl, .list wk, .list wk, .lst (SqL.of h8) x8.dp, .lst (SqL.of h18) x78.dp, shw, shw, _, rfl, ?_⟩
  rw [SeqAt.eqv_refl _ lyw]
  refine iteF ?_
  have t1' := t1
  obtain ⟨kd, fs, ss, qs, es, hk, e1', hf, e2, e3⟩ := t1'
  have hql := hf.len (tt_good 16)
  have hq : qs.length ≤ LIM := by
    rw [e2, List.length_cons] at lk'
    omega
  refine ⟨_, rfl, .ref y6, kd, fs, ss, qs, es, rfl, (by rw [← e1']; exact tr8), hk, hf, hq, fun H9 pl xs9 m9 np9 h9 x9 => ?_⟩
  refine ⟨_, _, _, _, true, rfl, .ty _, .base (.lst h9), kit_ty (by decide +kernel), _, rfl, iteF ?_⟩
  have tr9 := tp_same m9 tr8
  have dr9 := tp_same m9 dr8
  -- without offsets
  refine ⟨_, rfl, .ref y6, dBlk is', wk, dBlk is, rfl, tr9, t1, lk', fun H10 v10 m10 x10 => ?_⟩
  have dr10 := tp_same m10 dr9
  refine ⟨_, rfl, dBlk is, dBlk is, x10.dp, dr10.dp, sh0, sh0, ?_⟩
  rw [SeqAt.eqv_refl _ gd0.1]
  refine ⟨true, rfl, ?_⟩
  refine iteT ?_
  refine ⟨_, rfl, .ref qd, dBlk is, w0, dBlk is, rfl, dr10, t0, l0', fun H11 v11 m11 x11 => ?_⟩
  refine ⟨_, rfl, dBlk is, dBlk is, x11.dp, (tp_same m11 dr10).dp, sh0, sh0, ?_⟩
  rw [SeqAt.eqv_refl _ gd0.1]
  exact q _
end
end My
namespace My
open PySem L2 SX
theorem fa_nil {α : Type} {P : α → Prop} : ∀ p ∈ ([] : List α), P p := fun p h => by cases h
theorem fa_cons {α : Type} {P : α → Prop} {x : α} {l : List α} (h : P x) (t : ∀ p ∈ l, P p) : ∀ p ∈ x :: l, P p := fun p hp => by
  rcases List.mem_cons.mp hp with rfl | hp
  · exact h
  · exact t p hp
set_option maxHeartbeats 0 in
theorem all_mk {l : PySem.W.OpenLaw} {w : World} {K : PySem.W.Frag} {h : Heap} {mg : Str → Option Value} {fa f1 f2 f3 f4 f5 f6 f7 f8 f9 f10 f11 f12 f13 f14 f15 f16 f17 f18 f19 f20 f21 f22 f23 f24 f25 f26 f27 f28 f29 f30 f31 f32 f33 f34 f35 f36 f37 aS h0 h1 h2 h3 h4 h5 h6 h7 h8 h9 h10 h11 h12 h13 h14 h15 h16 h17 h18 h19 h20 h21 h22 h23 h24 h25 h26 h27 h28 h29 h30 h31 h32 : Addr} (X : K.In h) (G : h.Ns mainGlobals mg) (hfa : mg "law" = some (.ref fa))
    {od1 an1 od2 an2 od3 an3 od4 an4 od5 an5 od6 an6 od7 an7 od8 an8 od9 an9 od10 an10 od11 an11 od12 an12 od13 an13 od14 an14 od15 an15 od16 an16 od17 an17 od18 an18 od19 an19 od20 an20 od21 an21 od22 an22 od23 an23 od24 an24 od25 an25 od26 an26 od27 an27 od28 an28 od29 an29 od30 an30 od31 an31 od32 an32 od33 an33 od34 an34 od35 an35 od36 an36 od37 an37 : Option Addr} {sl1 sl2 sl3 sl4 sl5 sl6 sl7 sl8 sl9 sl10 sl11 sl12 sl13 sl14 sl15 sl16 sl17 sl18 sl19 sl20 sl21 sl22 sl23 sl24 sl25 sl26 sl27 sl28 sl29 sl30 sl31 sl32 sl33 sl34 sl35 sl36 sl37 : Array (Option Value)} {oc1 kV1 dc1 pm1 cd1 ct1 oc2 kV2 dc2 pm2 cd2 ct2 oc3 kV3 dc3 pm3 cd3 ct3 oc4 kV4 dc4 pm4 cd4 ct4 oc5 kV5 dc5 pm5 cd5 ct5 oc6 kV6 dc6 pm6 cd6 ct6 oc7 kV7 dc7 pm7 cd7 ct7 oc8 kV8 dc8 pm8 cd8 ct8 oc9 kV9 dc9 pm9 cd9 ct9 oc10 kV10 dc10 pm10 cd10 ct10 oc11 kV11 dc11 pm11 cd11 ct11 oc12 kV12 dc12 pm12 cd12 ct12 oc13 kV13 dc13 pm13 cd13 ct13 oc14 kV14 dc14 pm14 cd14 ct14 oc15 kV15 dc15 pm15 cd15 ct15 oc16 kV16 dc16 pm16 cd16 ct16 oc17 kV17 dc17 pm17 cd17 ct17 oc18 kV18 dc18 pm18 cd18 ct18 oc19 kV19 dc19 pm19 cd19 ct19 oc20 kV20 dc20 pm20 cd20 ct20 oc21 kV21 dc21 pm21 cd21 ct21 oc22 kV22 dc22 pm22 cd22 ct22 oc23 kV23 dc23 pm23 cd23 ct23 oc24 kV24 dc24 pm24 cd24 ct24 oc25 kV25 dc25 pm25 cd25 ct25 oc26 kV26 dc26 pm26 cd26 ct26 oc27 kV27 dc27 pm27 cd27 ct27 oc28 kV28 dc28 pm28 cd28 ct28 oc29 kV29 dc29 pm29 cd29 ct29 oc30 kV30 dc30 pm30 cd30 ct30 oc31 kV31 dc31 pm31 cd31 ct31 oc32 kV32 dc32 pm32 cd32 ct32 oc33 kV33 dc33 pm33 cd33 ct33 oc34 kV34 dc34 pm34 cd34 ct34 oc35 kV35 dc35 pm35 cd35 ct35 oc36 kV36 dc36 pm36 cd36 ct36 oc37 kV37 dc37 pm37 cd37 ct37 : Value}
    {esH : Array DictEntry} {nH : Nat} {dd0 dd1 dd2 dd3 dd4 dd5 dd6 dd7 dd8 dd9 dd10 dd11 dd12 dd13 dd14 dd15 dd16 dd17 dd18 dd19 dd20 dd21 dd22 dd23 dd24 dd25 dd26 dd27 dd28 dd29 dd30 dd31 dd32 : Option Addr} {its0 its1 its2 its3 its4 its5 its6 its7 its8 its9 its10 its11 its12 its13 its14 its15 its16 its17 its18 its19 its20 its21 its22 its23 its24 its25 its26 its27 its28 its29 its30 its31 its32 : Array Value} {nn0 nn1 nn2 nn3 nn4 nn5 nn6 nn7 nn8 nn9 nn10 nn11 nn12 nn13 nn14 nn15 nn16 nn17 nn18 nn19 nn20 nn21 nn22 nn23 nn24 nn25 nn26 nn27 nn28 nn29 nn30 nn31 nn32 : Nat} {os0 os1 os2 os3 os4 os5 os6 os7 os8 os9 os10 os11 os12 os13 os14 os15 os16 os17 os18 os19 os20 os21 os22 os23 os24 os25 os26 os27 os28 os29 os30 os31 os32 : Array (Option Value)}
    (a1 : PySem.W.nsIn K mainGlobals "parts_of" = some (some (.ref f1))) (l1 : K.lookup f1 = some ⟨oc1, od1, .func (PySem.W.fnOf "parts_of" "parts_of" (defArgs (top 2)) (defBody (top 2)) (defScope (top 2)) .none kV1 dc1 pm1 an1 cd1 ct1), sl1⟩) (c1 : PySem.W.codeIn K cd1 "parts_of" = true) (k1 : PySem.W.keepIn K (.ref f1) = true)
    (a2 : PySem.W.nsIn K mainGlobals "terms_in" = some (some (.ref f2))) (l2 : K.lookup f2 = some ⟨oc2, od2, .func (PySem.W.fnOf "terms_in" "terms_in" (defArgs (top 3)) (defBody (top 3)) (defScope (top 3)) .none kV2 dc2 pm2 an2 cd2 ct2), sl2⟩) (c2 : PySem.W.codeIn K cd2 "terms_in" = true) (k2 : PySem.W.keepIn K (.ref f2) = true)
    (a3 : PySem.W.nsIn K mainGlobals "without_offsets" = some (some (.ref f3))) (l3 : K.lookup f3 = some ⟨oc3, od3, .func (PySem.W.fnOf "without_offsets" "without_offsets" (defArgs (top 6)) (defBody (top 6)) (defScope (top 6)) .none kV3 dc3 pm3 an3 cd3 ct3), sl3⟩) (c3 : PySem.W.codeIn K cd3 "without_offsets" = true) (k3 : PySem.W.keepIn K (.ref f3) = true)
    (a4 : PySem.W.nsIn K mainGlobals "bare" = some (some (.ref f4))) (l4 : K.lookup f4 = some ⟨oc4, od4, .func (PySem.W.fnOf "bare" "bare" (defArgs (top 7)) (defBody (top 7)) (defScope (top 7)) .none kV4 dc4 pm4 an4 cd4 ct4), sl4⟩) (c4 : PySem.W.codeIn K cd4 "bare" = true) (k4 : PySem.W.keepIn K (.ref f4) = true)
    (a5 : PySem.W.nsIn K mainGlobals "_law_rows" = some (some (.ref f5))) (l5 : K.lookup f5 = some ⟨oc5, od5, .func (PySem.W.fnOf "_law_rows" "_law_rows" (defArgs sRows) (defBody sRows) (defScope sRows) .none kV5 dc5 pm5 an5 cd5 ct5), sl5⟩) (c5 : PySem.W.codeIn K cd5 "_law_rows" = true) (k5 : PySem.W.keepIn K (.ref f5) = true)
    (a6 : PySem.W.nsIn K mainGlobals "_law_draw" = some (some (.ref f6))) (l6 : K.lookup f6 = some ⟨oc6, od6, .func (PySem.W.fnOf "_law_draw" "_law_draw" (defArgs sDraw) (defBody sDraw) (defScope sDraw) .none kV6 dc6 pm6 an6 cd6 ct6), sl6⟩) (c6 : PySem.W.codeIn K cd6 "_law_draw" = true) (k6 : PySem.W.keepIn K (.ref f6) = true)
    (a7 : PySem.W.nsIn K mainGlobals "_law_leaf" = some (some (.ref f7))) (l7 : K.lookup f7 = some ⟨oc7, od7, .func (PySem.W.fnOf "_law_leaf" "_law_leaf" (defArgs sLeaf) (defBody sLeaf) (defScope sLeaf) .none kV7 dc7 pm7 an7 cd7 ct7), sl7⟩) (c7 : PySem.W.codeIn K cd7 "_law_leaf" = true) (k7 : PySem.W.keepIn K (.ref f7) = true)
    (a8 : PySem.W.nsIn K mainGlobals "_law_terms" = some (some (.ref f8))) (l8 : K.lookup f8 = some ⟨oc8, od8, .func (PySem.W.fnOf "_law_terms" "_law_terms" (defArgs sTerms) (defBody sTerms) (defScope sTerms) .none kV8 dc8 pm8 an8 cd8 ct8), sl8⟩) (c8 : PySem.W.codeIn K cd8 "_law_terms" = true) (k8 : PySem.W.keepIn K (.ref f8) = true)
    (a9 : PySem.W.nsIn K mainGlobals "_law_expression" = some (some (.ref f9))) (l9 : K.lookup f9 = some ⟨oc9, od9, .func (PySem.W.fnOf "_law_expression" "_law_expression" (defArgs sExpression) (defBody sExpression) (defScope sExpression) .none kV9 dc9 pm9 an9 cd9 ct9), sl9⟩) (c9 : PySem.W.codeIn K cd9 "_law_expression" = true) (k9 : PySem.W.keepIn K (.ref f9) = true)
    (a10 : PySem.W.nsIn K mainGlobals "_law_compound" = some (some (.ref f10))) (l10 : K.lookup f10 = some ⟨oc10, od10, .func (PySem.W.fnOf "_law_compound" "_law_compound" (defArgs sCompound) (defBody sCompound) (defScope sCompound) .none kV10 dc10 pm10 an10 cd10 ct10), sl10⟩) (c10 : PySem.W.codeIn K cd10 "_law_compound" = true) (k10 : PySem.W.keepIn K (.ref f10) = true)
    (a11 : PySem.W.nsIn K mainGlobals "_law_assignment" = some (some (.ref f11))) (l11 : K.lookup f11 = some ⟨oc11, od11, .func (PySem.W.fnOf "_law_assignment" "_law_assignment" (defArgs sAssignment) (defBody sAssignment) (defScope sAssignment) .none kV11 dc11 pm11 an11 cd11 ct11), sl11⟩) (c11 : PySem.W.codeIn K cd11 "_law_assignment" = true) (k11 : PySem.W.keepIn K (.ref f11) = true)
    (a12 : PySem.W.nsIn K mainGlobals "_law_function" = some (some (.ref f12))) (l12 : K.lookup f12 = some ⟨oc12, od12, .func (PySem.W.fnOf "_law_function" "_law_function" (defArgs sFunction) (defBody sFunction) (defScope sFunction) .none kV12 dc12 pm12 an12 cd12 ct12), sl12⟩) (c12 : PySem.W.codeIn K cd12 "_law_function" = true) (k12 : PySem.W.keepIn K (.ref f12) = true)
    (a13 : PySem.W.nsIn K mainGlobals "_law_block" = some (some (.ref f13))) (l13 : K.lookup f13 = some ⟨oc13, od13, .func (PySem.W.fnOf "_law_block" "_law_block" (defArgs sBlock) (defBody sBlock) (defScope sBlock) .none kV13 dc13 pm13 an13 cd13 ct13), sl13⟩) (c13 : PySem.W.codeIn K cd13 "_law_block" = true) (k13 : PySem.W.keepIn K (.ref f13) = true)
    (a14 : PySem.W.nsIn K mainGlobals "_law_item" = some (some (.ref f14))) (l14 : K.lookup f14 = some ⟨oc14, od14, .func (PySem.W.fnOf "_law_item" "_law_item" (defArgs sItem) (defBody sItem) (defScope sItem) .none kV14 dc14 pm14 an14 cd14 ct14), sl14⟩) (c14 : PySem.W.codeIn K cd14 "_law_item" = true) (k14 : PySem.W.keepIn K (.ref f14) = true)
    (a15 : PySem.W.nsIn K mainGlobals "_law_member" = some (some (.ref f15))) (l15 : K.lookup f15 = some ⟨oc15, od15, .func (PySem.W.fnOf "_law_member" "_law_member" (defArgs sMember) (defBody sMember) (defScope sMember) .none kV15 dc15 pm15 an15 cd15 ct15), sl15⟩) (c15 : PySem.W.codeIn K cd15 "_law_member" = true) (k15 : PySem.W.keepIn K (.ref f15) = true)
    (a16 : PySem.W.nsIn K mainGlobals "_law_statement" = some (some (.ref f16))) (l16 : K.lookup f16 = some ⟨oc16, od16, .func (PySem.W.fnOf "_law_statement" "_law_statement" (defArgs sStatement) (defBody sStatement) (defScope sStatement) .none kV16 dc16 pm16 an16 cd16 ct16), sl16⟩) (c16 : PySem.W.codeIn K cd16 "_law_statement" = true) (k16 : PySem.W.keepIn K (.ref f16) = true)
    (a17 : PySem.W.nsIn K mainGlobals "_law_conditional" = some (some (.ref f17))) (l17 : K.lookup f17 = some ⟨oc17, od17, .func (PySem.W.fnOf "_law_conditional" "_law_conditional" (defArgs sConditional) (defBody sConditional) (defScope sConditional) .none kV17 dc17 pm17 an17 cd17 ct17), sl17⟩) (c17 : PySem.W.codeIn K cd17 "_law_conditional" = true) (k17 : PySem.W.keepIn K (.ref f17) = true)
    (a18 : PySem.W.nsIn K mainGlobals "_law_inner" = some (some (.ref f18))) (l18 : K.lookup f18 = some ⟨oc18, od18, .func (PySem.W.fnOf "_law_inner" "_law_inner" (defArgs sInner) (defBody sInner) (defScope sInner) .none kV18 dc18 pm18 an18 cd18 ct18), sl18⟩) (c18 : PySem.W.codeIn K cd18 "_law_inner" = true) (k18 : PySem.W.keepIn K (.ref f18) = true)
    (a19 : PySem.W.nsIn K mainGlobals "_law_list" = some (some (.ref f19))) (l19 : K.lookup f19 = some ⟨oc19, od19, .func (PySem.W.fnOf "_law_list" "_law_list" (defArgs sList) (defBody sList) (defScope sList) .none kV19 dc19 pm19 an19 cd19 ct19), sl19⟩) (c19 : PySem.W.codeIn K cd19 "_law_list" = true) (k19 : PySem.W.keepIn K (.ref f19) = true)
    (a20 : PySem.W.nsIn K mainGlobals "_law_write" = some (some (.ref f20))) (l20 : K.lookup f20 = some ⟨oc20, od20, .func (PySem.W.fnOf "_law_write" "_law_write" (defArgs sWrite) (defBody sWrite) (defScope sWrite) .none kV20 dc20 pm20 an20 cd20 ct20), sl20⟩) (c20 : PySem.W.codeIn K cd20 "_law_write" = true) (k20 : PySem.W.keepIn K (.ref f20) = true)
    (a21 : PySem.W.nsIn K mainGlobals "_law_between" = some (some (.ref f21))) (l21 : K.lookup f21 = some ⟨oc21, od21, .func (PySem.W.fnOf "_law_between" "_law_between" (defArgs sBetween) (defBody sBetween) (defScope sBetween) .none kV21 dc21 pm21 an21 cd21 ct21), sl21⟩) (c21 : PySem.W.codeIn K cd21 "_law_between" = true) (k21 : PySem.W.keepIn K (.ref f21) = true)
    (a22 : PySem.W.nsIn K mainGlobals "_law_map" = some (some (.ref f22))) (l22 : K.lookup f22 = some ⟨oc22, od22, .func (PySem.W.fnOf "_law_map" "_law_map" (defArgs sMap) (defBody sMap) (defScope sMap) .none kV22 dc22 pm22 an22 cd22 ct22), sl22⟩) (c22 : PySem.W.codeIn K cd22 "_law_map" = true) (k22 : PySem.W.keepIn K (.ref f22) = true)
    (a23 : PySem.W.nsIn K mainGlobals "_law_suffixed" = some (some (.ref f23))) (l23 : K.lookup f23 = some ⟨oc23, od23, .func (PySem.W.fnOf "_law_suffixed" "_law_suffixed" (defArgs sSuffixed) (defBody sSuffixed) (defScope sSuffixed) .none kV23 dc23 pm23 an23 cd23 ct23), sl23⟩) (c23 : PySem.W.codeIn K cd23 "_law_suffixed" = true) (k23 : PySem.W.keepIn K (.ref f23) = true)
    (a24 : PySem.W.nsIn K mainGlobals "_law_body" = some (some (.ref f24))) (l24 : K.lookup f24 = some ⟨oc24, od24, .func (PySem.W.fnOf "_law_body" "_law_body" (defArgs sBody) (defBody sBody) (defScope sBody) .none kV24 dc24 pm24 an24 cd24 ct24), sl24⟩) (c24 : PySem.W.codeIn K cd24 "_law_body" = true) (k24 : PySem.W.keepIn K (.ref f24) = true)
    (a25 : PySem.W.nsIn K mainGlobals "_law_block_text" = some (some (.ref f25))) (l25 : K.lookup f25 = some ⟨oc25, od25, .func (PySem.W.fnOf "_law_block_text" "_law_block_text" (defArgs sBlockText) (defBody sBlockText) (defScope sBlockText) .none kV25 dc25 pm25 an25 cd25 ct25), sl25⟩) (c25 : PySem.W.codeIn K cd25 "_law_block_text" = true) (k25 : PySem.W.keepIn K (.ref f25) = true)
    (a26 : PySem.W.nsIn K mainGlobals "_law_items" = some (some (.ref f26))) (l26 : K.lookup f26 = some ⟨oc26, od26, .func (PySem.W.fnOf "_law_items" "_law_items" (defArgs sItems) (defBody sItems) (defScope sItems) .none kV26 dc26 pm26 an26 cd26 ct26), sl26⟩) (c26 : PySem.W.codeIn K cd26 "_law_items" = true) (k26 : PySem.W.keepIn K (.ref f26) = true)
    (a27 : PySem.W.nsIn K mainGlobals "_law_item_text" = some (some (.ref f27))) (l27 : K.lookup f27 = some ⟨oc27, od27, .func (PySem.W.fnOf "_law_item_text" "_law_item_text" (defArgs sItemText) (defBody sItemText) (defScope sItemText) .none kV27 dc27 pm27 an27 cd27 ct27), sl27⟩) (c27 : PySem.W.codeIn K cd27 "_law_item_text" = true) (k27 : PySem.W.keepIn K (.ref f27) = true)
    (a28 : PySem.W.nsIn K mainGlobals "_law_member_text" = some (some (.ref f28))) (l28 : K.lookup f28 = some ⟨oc28, od28, .func (PySem.W.fnOf "_law_member_text" "_law_member_text" (defArgs sMemberText) (defBody sMemberText) (defScope sMemberText) .none kV28 dc28 pm28 an28 cd28 ct28), sl28⟩) (c28 : PySem.W.codeIn K cd28 "_law_member_text" = true) (k28 : PySem.W.keepIn K (.ref f28) = true)
    (a29 : PySem.W.nsIn K mainGlobals "_law_statement_text" = some (some (.ref f29))) (l29 : K.lookup f29 = some ⟨oc29, od29, .func (PySem.W.fnOf "_law_statement_text" "_law_statement_text" (defArgs sStatementText) (defBody sStatementText) (defScope sStatementText) .none kV29 dc29 pm29 an29 cd29 ct29), sl29⟩) (c29 : PySem.W.codeIn K cd29 "_law_statement_text" = true) (k29 : PySem.W.keepIn K (.ref f29) = true)
    (a30 : PySem.W.nsIn K mainGlobals "_law_compound_text" = some (some (.ref f30))) (l30 : K.lookup f30 = some ⟨oc30, od30, .func (PySem.W.fnOf "_law_compound_text" "_law_compound_text" (defArgs sCompoundText) (defBody sCompoundText) (defScope sCompoundText) .none kV30 dc30 pm30 an30 cd30 ct30), sl30⟩) (c30 : PySem.W.codeIn K cd30 "_law_compound_text" = true) (k30 : PySem.W.keepIn K (.ref f30) = true)
    (a31 : PySem.W.nsIn K mainGlobals "_law_kinds" = some (some (.ref f31))) (l31 : K.lookup f31 = some ⟨oc31, od31, .func (PySem.W.fnOf "_law_kinds" "_law_kinds" (defArgs (top 35)) (defBody (top 35)) (defScope (top 35)) .none kV31 dc31 pm31 an31 cd31 ct31), sl31⟩) (c31 : PySem.W.codeIn K cd31 "_law_kinds" = true) (k31 : PySem.W.keepIn K (.ref f31) = true)
    (a32 : PySem.W.nsIn K mainGlobals "_law_terms_in" = some (some (.ref f32))) (l32 : K.lookup f32 = some ⟨oc32, od32, .func (PySem.W.fnOf "_law_terms_in" "_law_terms_in" (defArgs (top 36)) (defBody (top 36)) (defScope (top 36)) .none kV32 dc32 pm32 an32 cd32 ct32), sl32⟩) (c32 : PySem.W.codeIn K cd32 "_law_terms_in" = true) (k32 : PySem.W.keepIn K (.ref f32) = true)
    (a33 : PySem.W.nsIn K mainGlobals "_law_inside" = some (some (.ref f33))) (l33 : K.lookup f33 = some ⟨oc33, od33, .func (PySem.W.fnOf "_law_inside" "_law_inside" (defArgs (top 37)) (defBody (top 37)) (defScope (top 37)) .none kV33 dc33 pm33 an33 cd33 ct33), sl33⟩) (c33 : PySem.W.codeIn K cd33 "_law_inside" = true) (k33 : PySem.W.keepIn K (.ref f33) = true)
    (a34 : PySem.W.nsIn K mainGlobals "_law_walk" = some (some (.ref f34))) (l34 : K.lookup f34 = some ⟨oc34, od34, .func (PySem.W.fnOf "_law_walk" "_law_walk" (defArgs (top 38)) (defBody (top 38)) (defScope (top 38)) .none kV34 dc34 pm34 an34 cd34 ct34), sl34⟩) (c34 : PySem.W.codeIn K cd34 "_law_walk" = true) (k34 : PySem.W.keepIn K (.ref f34) = true)
    (a35 : PySem.W.nsIn K mainGlobals "with_parts" = some (some (.ref f35))) (l35 : K.lookup f35 = some ⟨oc35, od35, .func (PySem.W.fnOf "with_parts" "with_parts" (defArgs (top 4)) (defBody (top 4)) (defScope (top 4)) .none kV35 dc35 pm35 an35 cd35 ct35), sl35⟩) (c35 : PySem.W.codeIn K cd35 "with_parts" = true) (k35 : PySem.W.keepIn K (.ref f35) = true)
    (a36 : PySem.W.nsIn K mainGlobals "rebuilt" = some (some (.ref f36))) (l36 : K.lookup f36 = some ⟨oc36, od36, .func (PySem.W.fnOf "rebuilt" "rebuilt" (defArgs (top 5)) (defBody (top 5)) (defScope (top 5)) .none kV36 dc36 pm36 an36 cd36 ct36), sl36⟩) (c36 : PySem.W.codeIn K cd36 "rebuilt" = true) (k36 : PySem.W.keepIn K (.ref f36) = true)
    (a37 : PySem.W.nsIn K mainGlobals "law" = some (some (.ref f37))) (l37 : K.lookup f37 = some ⟨oc37, od37, .func (PySem.W.fnOf "law" "law" (defArgs (top 39)) (defBody (top 39)) (defScope (top 39)) .none kV37 dc37 pm37 an37 cd37 ct37), sl37⟩) (c37 : PySem.W.codeIn K cd37 "law" = true) (k37 : PySem.W.keepIn K (.ref f37) = true)
    (z1 : PySem.W.nsIn K mainGlobals "range" = some none)
    (z2 : PySem.W.nsIn K mainGlobals "len" = some none)
    (z3 : PySem.W.nsIn K mainGlobals "int" = some none)
    (z4 : PySem.W.nsIn K mainGlobals "str" = some none)
    (z5 : PySem.W.nsIn K mainGlobals "isinstance" = some none)
    (z6 : PySem.W.nsIn K mainGlobals "list" = some none)
    (z7 : PySem.W.nsIn K mainGlobals "tuple" = some none)
    (z8 : PySem.W.nsIn K mainGlobals "zip" = some none)
    (sSH : PySem.W.nsIn K mainGlobals "SHAPES" = some (some (.ref aS)))
    (lSH : K.lookup aS = some ⟨.type "dict", none, .dict esH nH, #[]⟩)
    (kSH : PySem.W.KeysLit w.params esH.toList)
    (nnull : PySem.W.nsIn K aS "null" = some (some (.ref h0)))
    (lnull : K.lookup h0 = some ⟨.type "tuple", dd0, .seq its0 nn0, os0⟩)
    (vnull : Vals [] its0.toList)
    (wnull : its0.size ≤ sizeLine)
    (nbool : PySem.W.nsIn K aS "bool" = some (some (.ref h1)))
    (lbool : K.lookup h1 = some ⟨.type "tuple", dd1, .seq its1 nn1, os1⟩)
    (vbool : Vals [.str "plain"] its1.toList)
    (wbool : its1.size ≤ sizeLine)
    (nint : PySem.W.nsIn K aS "int" = some (some (.ref h2)))
    (lint : K.lookup h2 = some ⟨.type "tuple", dd2, .seq its2 nn2, os2⟩)
    (vint : Vals [.str "plain"] its2.toList)
    (wint : its2.size ≤ sizeLine)
    (ntext : PySem.W.nsIn K aS "text" = some (some (.ref h3)))
    (ltext : K.lookup h3 = some ⟨.type "tuple", dd3, .seq its3 nn3, os3⟩)
    (vtext : Vals [.str "plain"] its3.toList)
    (wtext : its3.size ≤ sizeLine)
    (nname : PySem.W.nsIn K aS "name" = some (some (.ref h4)))
    (lname : K.lookup h4 = some ⟨.type "tuple", dd4, .seq its4 nn4, os4⟩)
    (vname : Vals [.str "offset", .str "plain"] its4.toList)
    (wname : its4.size ≤ sizeLine)
    (nassign : PySem.W.nsIn K aS "assign" = some (some (.ref h5)))
    (lassign : K.lookup h5 = some ⟨.type "tuple", dd5, .seq its5 nn5, os5⟩)
    (vassign : Vals [.str "offset", .str "plain", .str "term"] its5.toList)
    (wassign : its5.size ≤ sizeLine)
    (nset_index : PySem.W.nsIn K aS "set_index" = some (some (.ref h6)))
    (lset_index : K.lookup h6 = some ⟨.type "tuple", dd6, .seq its6 nn6, os6⟩)
    (vset_index : Vals [.str "offset", .str "term", .str "term", .str "term"] its6.toList)
    (wset_index : its6.size ≤ sizeLine)
    (nset_field : PySem.W.nsIn K aS "set_field" = some (some (.ref h7)))
    (lset_field : K.lookup h7 = some ⟨.type "tuple", dd7, .seq its7 nn7, os7⟩)
    (vset_field : Vals [.str "offset", .str "term", .str "plain", .str "term"] its7.toList)
    (wset_field : its7.size ≤ sizeLine)
    (nunary : PySem.W.nsIn K aS "unary" = some (some (.ref h8)))
    (lunary : K.lookup h8 = some ⟨.type "tuple", dd8, .seq its8 nn8, os8⟩)
    (vunary : Vals [.str "offset", .str "plain", .str "term"] its8.toList)
    (wunary : its8.size ≤ sizeLine)
    (nbinary : PySem.W.nsIn K aS "binary" = some (some (.ref h9)))
    (lbinary : K.lookup h9 = some ⟨.type "tuple", dd9, .seq its9 nn9, os9⟩)
    (vbinary : Vals [.str "offset", .str "plain", .str "term", .str "term"] its9.toList)
    (wbinary : its9.size ≤ sizeLine)
    (nboth : PySem.W.nsIn K aS "both" = some (some (.ref h10)))
    (lboth : K.lookup h10 = some ⟨.type "tuple", dd10, .seq its10 nn10, os10⟩)
    (vboth : Vals [.str "term", .str "term"] its10.toList)
    (wboth : its10.size ≤ sizeLine)
    (neither : PySem.W.nsIn K aS "either" = some (some (.ref h11)))
    (leither : K.lookup h11 = some ⟨.type "tuple", dd11, .seq its11 nn11, os11⟩)
    (veither : Vals [.str "term", .str "term"] its11.toList)
    (weither : its11.size ≤ sizeLine)
    (nlist : PySem.W.nsIn K aS "list" = some (some (.ref h12)))
    (llist : K.lookup h12 = some ⟨.type "tuple", dd12, .seq its12 nn12, os12⟩)
    (vlist : Vals [.str "terms"] its12.toList)
    (wlist : its12.size ≤ sizeLine)
    (nmap : PySem.W.nsIn K aS "map" = some (some (.ref h13)))
    (lmap : K.lookup h13 = some ⟨.type "tuple", dd13, .seq its13 nn13, os13⟩)
    (vmap : Vals [.str "offset", .str "pairs"] its13.toList)
    (wmap : its13.size ≤ sizeLine)
    (nindex : PySem.W.nsIn K aS "index" = some (some (.ref h14)))
    (lindex : K.lookup h14 = some ⟨.type "tuple", dd14, .seq its14 nn14, os14⟩)
    (vindex : Vals [.str "offset", .str "term", .str "term"] its14.toList)
    (windex : its14.size ≤ sizeLine)
    (nfield : PySem.W.nsIn K aS "field" = some (some (.ref h15)))
    (lfield : K.lookup h15 = some ⟨.type "tuple", dd15, .seq its15 nn15, os15⟩)
    (vfield : Vals [.str "offset", .str "term", .str "plain"] its15.toList)
    (wfield : its15.size ≤ sizeLine)
    (ncall : PySem.W.nsIn K aS "call" = some (some (.ref h16)))
    (lcall : K.lookup h16 = some ⟨.type "tuple", dd16, .seq its16 nn16, os16⟩)
    (vcall : Vals [.str "offset", .str "term", .str "terms"] its16.toList)
    (wcall : its16.size ≤ sizeLine)
    (ninvoke : PySem.W.nsIn K aS "invoke" = some (some (.ref h17)))
    (linvoke : K.lookup h17 = some ⟨.type "tuple", dd17, .seq its17 nn17, os17⟩)
    (vinvoke : Vals [.str "offset", .str "term", .str "plain", .str "terms"] its17.toList)
    (winvoke : its17.size ≤ sizeLine)
    (nsuper : PySem.W.nsIn K aS "super" = some (some (.ref h18)))
    (lsuper : K.lookup h18 = some ⟨.type "tuple", dd18, .seq its18 nn18, os18⟩)
    (vsuper : Vals [.str "offset", .str "plain", .str "terms"] its18.toList)
    (wsuper : its18.size ≤ sizeLine)
    (nfunction : PySem.W.nsIn K aS "function" = some (some (.ref h19)))
    (lfunction : K.lookup h19 = some ⟨.type "tuple", dd19, .seq its19 nn19, os19⟩)
    (vfunction : Vals [.str "offset", .str "plain", .str "plain", .str "term"] its19.toList)
    (wfunction : its19.size ≤ sizeLine)
    (nblock : PySem.W.nsIn K aS "block" = some (some (.ref h20)))
    (lblock : K.lookup h20 = some ⟨.type "tuple", dd20, .seq its20 nn20, os20⟩)
    (vblock : Vals [.str "terms"] its20.toList)
    (wblock : its20.size ≤ sizeLine)
    (nlet : PySem.W.nsIn K aS "let" = some (some (.ref h21)))
    (llet : K.lookup h21 = some ⟨.type "tuple", dd21, .seq its21 nn21, os21⟩)
    (vlet : Vals [.str "offset", .str "plain", .str "term"] its21.toList)
    (wlet : its21.size ≤ sizeLine)
    (ngroup : PySem.W.nsIn K aS "group" = some (some (.ref h22)))
    (lgroup : K.lookup h22 = some ⟨.type "tuple", dd22, .seq its22 nn22, os22⟩)
    (vgroup : Vals [.str "members"] its22.toList)
    (wgroup : its22.size ≤ sizeLine)
    (nclass : PySem.W.nsIn K aS "class" = some (some (.ref h23)))
    (lclass : K.lookup h23 = some ⟨.type "tuple", dd23, .seq its23 nn23, os23⟩)
    (vclass : Vals [.str "offset", .str "plain", .str "option", .str "methods"] its23.toList)
    (wclass : its23.size ≤ sizeLine)
    (ndo : PySem.W.nsIn K aS "do" = some (some (.ref h24)))
    (ldo : K.lookup h24 = some ⟨.type "tuple", dd24, .seq its24 nn24, os24⟩)
    (vdo : Vals [.str "term"] its24.toList)
    (wdo : its24.size ≤ sizeLine)
    (nif : PySem.W.nsIn K aS "if" = some (some (.ref h25)))
    (lif : K.lookup h25 = some ⟨.type "tuple", dd25, .seq its25 nn25, os25⟩)
    (vif : Vals [.str "offset", .str "term", .str "term", .str "option"] its25.toList)
    (wif : its25.size ≤ sizeLine)
    (nwhile : PySem.W.nsIn K aS "while" = some (some (.ref h26)))
    (lwhile : K.lookup h26 = some ⟨.type "tuple", dd26, .seq its26 nn26, os26⟩)
    (vwhile : Vals [.str "offset", .str "term", .str "term"] its26.toList)
    (wwhile : its26.size ≤ sizeLine)
    (nfor : PySem.W.nsIn K aS "for" = some (some (.ref h27)))
    (lfor : K.lookup h27 = some ⟨.type "tuple", dd27, .seq its27 nn27, os27⟩)
    (vfor : Vals [.str "offset", .str "offset", .str "plain", .str "term", .str "term"] its27.toList)
    (wfor : its27.size ≤ sizeLine)
    (nbreak : PySem.W.nsIn K aS "break" = some (some (.ref h28)))
    (lbreak : K.lookup h28 = some ⟨.type "tuple", dd28, .seq its28 nn28, os28⟩)
    (vbreak : Vals [.str "offset"] its28.toList)
    (wbreak : its28.size ≤ sizeLine)
    (ncontinue : PySem.W.nsIn K aS "continue" = some (some (.ref h29)))
    (lcontinue : K.lookup h29 = some ⟨.type "tuple", dd29, .seq its29 nn29, os29⟩)
    (vcontinue : Vals [.str "offset"] its29.toList)
    (wcontinue : its29.size ≤ sizeLine)
    (nreturn : PySem.W.nsIn K aS "return" = some (some (.ref h30)))
    (lreturn : K.lookup h30 = some ⟨.type "tuple", dd30, .seq its30 nn30, os30⟩)
    (vreturn : Vals [.str "offset", .str "term"] its30.toList)
    (wreturn : its30.size ≤ sizeLine)
    (nthrow : PySem.W.nsIn K aS "throw" = some (some (.ref h31)))
    (lthrow : K.lookup h31 = some ⟨.type "tuple", dd31, .seq its31 nn31, os31⟩)
    (vthrow : Vals [.str "offset", .str "term"] its31.toList)
    (wthrow : its31.size ≤ sizeLine)
    (ntry : PySem.W.nsIn K aS "try" = some (some (.ref h32)))
    (ltry : K.lookup h32 = some ⟨.type "tuple", dd32, .seq its32 nn32, os32⟩)
    (vtry : Vals [.str "offset", .str "term", .str "offset", .str "plain", .str "term"] its32.toList)
    (wtry : its32.size ≤ sizeLine)
    : ∃ fd : FuncData, (∀ (s : Shared) (v : Value), BindsTo s fd ⟨[v], []⟩ [("script", v)]) ∧ ∀ base : Heap, K.In base → base.Ns mainGlobals mg → FnOk l.prog w K mg base CX0 60 fa fd ["script"] (spLaw K) := by
  have e := hfa.symm.trans (PySem.W.mg_of X G a37)
  cases e
  have B : Bl mg := ⟨PySem.W.mg_none_of X G z1, PySem.W.mg_none_of X G z2, PySem.W.mg_none_of X G z3, PySem.W.mg_none_of X G z4, PySem.W.mg_none_of X G z5, PySem.W.mg_none_of X G z6, PySem.W.mg_none_of X G z7, PySem.W.mg_none_of X G z8⟩
  have F1 := fun_mk (st := (top 2)) l1 c1 k1
  have F2 := fun_mk (st := (top 3)) l2 c2 k2
  have F3 := fun_mk (st := (top 6)) l3 c3 k3
  have F4 := fun_mk (st := (top 7)) l4 c4 k4
  have F5 := fun_mk (st := sRows) l5 c5 k5
  have F6 := fun_mk (st := sDraw) l6 c6 k6
  have F7 := fun_mk (st := sLeaf) l7 c7 k7
  have F8 := fun_mk (st := sTerms) l8 c8 k8
  have F9 := fun_mk (st := sExpression) l9 c9 k9
  have F10 := fun_mk (st := sCompound) l10 c10 k10
  have F11 := fun_mk (st := sAssignment) l11 c11 k11
  have F12 := fun_mk (st := sFunction) l12 c12 k12
  have F13 := fun_mk (st := sBlock) l13 c13 k13
  have F14 := fun_mk (st := sItem) l14 c14 k14
  have F15 := fun_mk (st := sMember) l15 c15 k15
  have F16 := fun_mk (st := sStatement) l16 c16 k16
  have F17 := fun_mk (st := sConditional) l17 c17 k17
  have F18 := fun_mk (st := sInner) l18 c18 k18
  have F19 := fun_mk (st := sList) l19 c19 k19
  have F20 := fun_mk (st := sWrite) l20 c20 k20
  have F21 := fun_mk (st := sBetween) l21 c21 k21
  have F22 := fun_mk (st := sMap) l22 c22 k22
  have F23 := fun_mk (st := sSuffixed) l23 c23 k23
  have F24 := fun_mk (st := sBody) l24 c24 k24
  have F25 := fun_mk (st := sBlockText) l25 c25 k25
  have F26 := fun_mk (st := sItems) l26 c26 k26
  have F27 := fun_mk (st := sItemText) l27 c27 k27
  have F28 := fun_mk (st := sMemberText) l28 c28 k28
  have F29 := fun_mk (st := sStatementText) l29 c29 k29
  have F30 := fun_mk (st := sCompoundText) l30 c30 k30
  have F31 := fun_mk (st := (top 35)) l31 c31 k31
  have F32 := fun_mk (st := (top 36)) l32 c32 k32
  have F33 := fun_mk (st := (top 37)) l33 c33 k33
  have F34 := fun_mk (st := (top 38)) l34 c34 k34
  have F35 := fun_mk (st := (top 4)) l35 c35 k35
  have F36 := fun_mk (st := (top 5)) l36 c36 k36
  have F37 := fun_mk (st := (top 39)) l37 c37 k37
  have b1 := F1.binds (ps := ["term"]) fun _ _ _ _ _ _ us hl => match us, hl with | [_], _ => rfl
  have g1 := PySem.W.mg_of X G a1
  have b2 := F2.binds (ps := ["shape", "held"]) fun _ _ _ _ _ _ us hl => match us, hl with | [_, _], _ => rfl
  have g2 := PySem.W.mg_of X G a2
  have b3 := F3.binds (ps := ["term"]) fun _ _ _ _ _ _ us hl => match us, hl with | [_], _ => rfl
  have g3 := PySem.W.mg_of X G a3
  have b4 := F4.binds (ps := ["shape", "held"]) fun _ _ _ _ _ _ us hl => match us, hl with | [_, _], _ => rfl
  have g4 := PySem.W.mg_of X G a4
  have b5 := F5.binds (ps := ["script", "count"]) fun _ _ _ _ _ _ us hl => match us, hl with | [_, _], _ => rfl
  have g5 := PySem.W.mg_of X G a5
  have b6 := F6.binds (ps := ["state", "count"]) fun _ _ _ _ _ _ us hl => match us, hl with | [_, _], _ => rfl
  have g6 := PySem.W.mg_of X G a6
  have b7 := F7.binds (ps := ["state"]) fun _ _ _ _ _ _ us hl => match us, hl with | [_], _ => rfl
  have g7 := PySem.W.mg_of X G a7
  have b8 := F8.binds (ps := ["state", "deep", "most"]) fun _ _ _ _ _ _ us hl => match us, hl with | [_, _, _], _ => rfl
  have g8 := PySem.W.mg_of X G a8
  have b9 := F9.binds (ps := ["state", "deep"]) fun _ _ _ _ _ _ us hl => match us, hl with | [_, _], _ => rfl
  have g9 := PySem.W.mg_of X G a9
  have b10 := F10.binds (ps := ["state", "deep", "choice"]) fun _ _ _ _ _ _ us hl => match us, hl with | [_, _, _], _ => rfl
  have g10 := PySem.W.mg_of X G a10
  have b11 := F11.binds (ps := ["state", "deep"]) fun _ _ _ _ _ _ us hl => match us, hl with | [_, _], _ => rfl
  have g11 := PySem.W.mg_of X G a11
  have b12 := F12.binds (ps := ["state", "deep", "params"]) fun _ _ _ _ _ _ us hl => match us, hl with | [_, _, _], _ => rfl
  have g12 := PySem.W.mg_of X G a12
  have b13 := F13.binds (ps := ["state", "deep"]) fun _ _ _ _ _ _ us hl => match us, hl with | [_, _], _ => rfl
  have g13 := PySem.W.mg_of X G a13
  have b14 := F14.binds (ps := ["state", "deep", "items"]) fun _ _ _ _ _ _ us hl => match us, hl with | [_, _, _], _ => rfl
  have g14 := PySem.W.mg_of X G a14
  have b15 := F15.binds (ps := ["state", "deep"]) fun _ _ _ _ _ _ us hl => match us, hl with | [_, _], _ => rfl
  have g15 := PySem.W.mg_of X G a15
  have b16 := F16.binds (ps := ["state", "deep"]) fun _ _ _ _ _ _ us hl => match us, hl with | [_, _], _ => rfl
  have g16 := PySem.W.mg_of X G a16
  have b17 := F17.binds (ps := ["state", "deep"]) fun _ _ _ _ _ _ us hl => match us, hl with | [_, _], _ => rfl
  have g17 := PySem.W.mg_of X G a17
  have b18 := F18.binds (ps := ["term", "at"]) fun _ _ _ _ _ _ us hl => match us, hl with | [_, _], _ => rfl
  have g18 := PySem.W.mg_of X G a18
  have b19 := F19.binds (ps := ["terms", "at"]) fun _ _ _ _ _ _ us hl => match us, hl with | [_, _], _ => rfl
  have g19 := PySem.W.mg_of X G a19
  have b20 := F20.binds (ps := ["term", "at"]) fun _ _ _ _ _ _ us hl => match us, hl with | [_, _], _ => rfl
  have g20 := PySem.W.mg_of X G a20
  have b21 := F21.binds (ps := ["term", "at"]) fun _ _ _ _ _ _ us hl => match us, hl with | [_, _], _ => rfl
  have g21 := PySem.W.mg_of X G a21
  have b22 := F22.binds (ps := ["term", "at"]) fun _ _ _ _ _ _ us hl => match us, hl with | [_, _], _ => rfl
  have g22 := PySem.W.mg_of X G a22
  have b23 := F23.binds (ps := ["term", "at"]) fun _ _ _ _ _ _ us hl => match us, hl with | [_, _], _ => rfl
  have g23 := PySem.W.mg_of X G a23
  have b24 := F24.binds (ps := ["term", "at", "names"]) fun _ _ _ _ _ _ us hl => match us, hl with | [_, _, _], _ => rfl
  have g24 := PySem.W.mg_of X G a24
  have b25 := F25.binds (ps := ["block", "at"]) fun _ _ _ _ _ _ us hl => match us, hl with | [_, _], _ => rfl
  have g25 := PySem.W.mg_of X G a25
  have b26 := F26.binds (ps := ["items", "at"]) fun _ _ _ _ _ _ us hl => match us, hl with | [_, _], _ => rfl
  have g26 := PySem.W.mg_of X G a26
  have b27 := F27.binds (ps := ["item", "at"]) fun _ _ _ _ _ _ us hl => match us, hl with | [_, _], _ => rfl
  have g27 := PySem.W.mg_of X G a27
  have b28 := F28.binds (ps := ["member", "at"]) fun _ _ _ _ _ _ us hl => match us, hl with | [_, _], _ => rfl
  have g28 := PySem.W.mg_of X G a28
  have b29 := F29.binds (ps := ["term", "at"]) fun _ _ _ _ _ _ us hl => match us, hl with | [_, _], _ => rfl
  have g29 := PySem.W.mg_of X G a29
  have b30 := F30.binds (ps := ["term", "at"]) fun _ _ _ _ _ _ us hl => match us, hl with | [_, _], _ => rfl
  have g30 := PySem.W.mg_of X G a30
  have b31 := F31.binds (ps := []) fun _ _ _ _ _ _ us hl => match us, hl with | [], _ => rfl
  have g31 := PySem.W.mg_of X G a31
  have b32 := F32.binds (ps := ["found", "part"]) fun _ _ _ _ _ _ us hl => match us, hl with | [_, _], _ => rfl
  have g32 := PySem.W.mg_of X G a32
  have b33 := F33.binds (ps := ["term"]) fun _ _ _ _ _ _ us hl => match us, hl with | [_], _ => rfl
  have g33 := PySem.W.mg_of X G a33
  have b34 := F34.binds (ps := ["found", "term"]) fun _ _ _ _ _ _ us hl => match us, hl with | [_, _], _ => rfl
  have g34 := PySem.W.mg_of X G a34
  have b35 := F35.binds (ps := ["term", "action"]) fun _ _ _ _ _ _ us hl => match us, hl with | [_, _], _ => rfl
  have g35 := PySem.W.mg_of X G a35
  have b36 := F36.binds (ps := ["shape", "held", "action"]) fun _ _ _ _ _ _ us hl => match us, hl with | [_, _, _], _ => rfl
  have g36 := PySem.W.mg_of X G a36
  have Pr : TPr K mg (fun i => [f1, f2, f3, f4, f35, f36].getD i f1) (fun i => [(PySem.W.fnOf "parts_of" "parts_of" (defArgs (top 2)) (defBody (top 2)) (defScope (top 2)) .none kV1 dc1 pm1 an1 cd1 ct1), (PySem.W.fnOf "terms_in" "terms_in" (defArgs (top 3)) (defBody (top 3)) (defScope (top 3)) .none kV2 dc2 pm2 an2 cd2 ct2), (PySem.W.fnOf "without_offsets" "without_offsets" (defArgs (top 6)) (defBody (top 6)) (defScope (top 6)) .none kV3 dc3 pm3 an3 cd3 ct3), (PySem.W.fnOf "bare" "bare" (defArgs (top 7)) (defBody (top 7)) (defScope (top 7)) .none kV4 dc4 pm4 an4 cd4 ct4), (PySem.W.fnOf "with_parts" "with_parts" (defArgs (top 4)) (defBody (top 4)) (defScope (top 4)) .none kV35 dc35 pm35 an35 cd35 ct35), (PySem.W.fnOf "rebuilt" "rebuilt" (defArgs (top 5)) (defBody (top 5)) (defScope (top 5)) .none kV36 dc36 pm36 an36 cd36 ct36)].getD i (PySem.W.fnOf "parts_of" "parts_of" (defArgs (top 2)) (defBody (top 2)) (defScope (top 2)) .none kV1 dc1 pm1 an1 cd1 ct1)) := ⟨F1, b1, g1, F2, b2, g2, F3, b3, g3, F4, b4, g4, F35, b35, g35, F36, b36, g36⟩
  have Wr : TW K mg (fun i => [f18, f19, f20, f21, f22, f23, f24, f25, f26, f27, f28, f29, f30].getD i f18) (fun i => [(PySem.W.fnOf "_law_inner" "_law_inner" (defArgs sInner) (defBody sInner) (defScope sInner) .none kV18 dc18 pm18 an18 cd18 ct18), (PySem.W.fnOf "_law_list" "_law_list" (defArgs sList) (defBody sList) (defScope sList) .none kV19 dc19 pm19 an19 cd19 ct19), (PySem.W.fnOf "_law_write" "_law_write" (defArgs sWrite) (defBody sWrite) (defScope sWrite) .none kV20 dc20 pm20 an20 cd20 ct20), (PySem.W.fnOf "_law_between" "_law_between" (defArgs sBetween) (defBody sBetween) (defScope sBetween) .none kV21 dc21 pm21 an21 cd21 ct21), (PySem.W.fnOf "_law_map" "_law_map" (defArgs sMap) (defBody sMap) (defScope sMap) .none kV22 dc22 pm22 an22 cd22 ct22), (PySem.W.fnOf "_law_suffixed" "_law_suffixed" (defArgs sSuffixed) (defBody sSuffixed) (defScope sSuffixed) .none kV23 dc23 pm23 an23 cd23 ct23), (PySem.W.fnOf "_law_body" "_law_body" (defArgs sBody) (defBody sBody) (defScope sBody) .none kV24 dc24 pm24 an24 cd24 ct24), (PySem.W.fnOf "_law_block_text" "_law_block_text" (defArgs sBlockText) (defBody sBlockText) (defScope sBlockText) .none kV25 dc25 pm25 an25 cd25 ct25), (PySem.W.fnOf "_law_items" "_law_items" (defArgs sItems) (defBody sItems) (defScope sItems) .none kV26 dc26 pm26 an26 cd26 ct26), (PySem.W.fnOf "_law_item_text" "_law_item_text" (defArgs sItemText) (defBody sItemText) (defScope sItemText) .none kV27 dc27 pm27 an27 cd27 ct27), (PySem.W.fnOf "_law_member_text" "_law_member_text" (defArgs sMemberText) (defBody sMemberText) (defScope sMemberText) .none kV28 dc28 pm28 an28 cd28 ct28), (PySem.W.fnOf "_law_statement_text" "_law_statement_text" (defArgs sStatementText) (defBody sStatementText) (defScope sStatementText) .none kV29 dc29 pm29 an29 cd29 ct29), (PySem.W.fnOf "_law_compound_text" "_law_compound_text" (defArgs sCompoundText) (defBody sCompoundText) (defScope sCompoundText) .none kV30 dc30 pm30 an30 cd30 ct30)].getD i (PySem.W.fnOf "_law_inner" "_law_inner" (defArgs sInner) (defBody sInner) (defScope sInner) .none kV18 dc18 pm18 an18 cd18 ct18)) := ⟨F18, b18, g18, F19, b19, g19, F20, b20, g20, F21, b21, g21, F22, b22, g22, F23, b23, g23, F24, b24, g24, F25, b25, g25, F26, b26, g26, F27, b27, g27, F28, b28, g28, F29, b29, g29, F30, b30, g30⟩
  have Se : TS' K mg (fun i => [f31, f32, f33, f34].getD i f31) (fun i => [(PySem.W.fnOf "_law_kinds" "_law_kinds" (defArgs (top 35)) (defBody (top 35)) (defScope (top 35)) .none kV31 dc31 pm31 an31 cd31 ct31), (PySem.W.fnOf "_law_terms_in" "_law_terms_in" (defArgs (top 36)) (defBody (top 36)) (defScope (top 36)) .none kV32 dc32 pm32 an32 cd32 ct32), (PySem.W.fnOf "_law_inside" "_law_inside" (defArgs (top 37)) (defBody (top 37)) (defScope (top 37)) .none kV33 dc33 pm33 an33 cd33 ct33), (PySem.W.fnOf "_law_walk" "_law_walk" (defArgs (top 38)) (defBody (top 38)) (defScope (top 38)) .none kV34 dc34 pm34 an34 cd34 ct34)].getD i (PySem.W.fnOf "_law_kinds" "_law_kinds" (defArgs (top 35)) (defBody (top 35)) (defScope (top 35)) .none kV31 dc31 pm31 an31 cd31 ct31)) := ⟨F31, b31, g31, F32, b32, g32, F33, b33, g33, F34, b34, g34⟩
  have Dr : TD K mg f6 f7 f8 f9 f10 f11 f12 f13 f14 f15 f16 f17 (PySem.W.fnOf "_law_draw" "_law_draw" (defArgs sDraw) (defBody sDraw) (defScope sDraw) .none kV6 dc6 pm6 an6 cd6 ct6) (PySem.W.fnOf "_law_leaf" "_law_leaf" (defArgs sLeaf) (defBody sLeaf) (defScope sLeaf) .none kV7 dc7 pm7 an7 cd7 ct7) (PySem.W.fnOf "_law_terms" "_law_terms" (defArgs sTerms) (defBody sTerms) (defScope sTerms) .none kV8 dc8 pm8 an8 cd8 ct8) (PySem.W.fnOf "_law_expression" "_law_expression" (defArgs sExpression) (defBody sExpression) (defScope sExpression) .none kV9 dc9 pm9 an9 cd9 ct9) (PySem.W.fnOf "_law_compound" "_law_compound" (defArgs sCompound) (defBody sCompound) (defScope sCompound) .none kV10 dc10 pm10 an10 cd10 ct10) (PySem.W.fnOf "_law_assignment" "_law_assignment" (defArgs sAssignment) (defBody sAssignment) (defScope sAssignment) .none kV11 dc11 pm11 an11 cd11 ct11) (PySem.W.fnOf "_law_function" "_law_function" (defArgs sFunction) (defBody sFunction) (defScope sFunction) .none kV12 dc12 pm12 an12 cd12 ct12) (PySem.W.fnOf "_law_block" "_law_block" (defArgs sBlock) (defBody sBlock) (defScope sBlock) .none kV13 dc13 pm13 an13 cd13 ct13) (PySem.W.fnOf "_law_item" "_law_item" (defArgs sItem) (defBody sItem) (defScope sItem) .none kV14 dc14 pm14 an14 cd14 ct14) (PySem.W.fnOf "_law_member" "_law_member" (defArgs sMember) (defBody sMember) (defScope sMember) .none kV15 dc15 pm15 an15 cd15 ct15) (PySem.W.fnOf "_law_statement" "_law_statement" (defArgs sStatement) (defBody sStatement) (defScope sStatement) .none kV16 dc16 pm16 an16 cd16 ct16) (PySem.W.fnOf "_law_conditional" "_law_conditional" (defArgs sConditional) (defBody sConditional) (defScope sConditional) .none kV17 dc17 pm17 an17 cd17 ct17) := ⟨F6, b6, g6, F7, b7, g7, F8, b8, g8, F9, b9, g9, F10, b10, g10, F11, b11, g11, F12, b12, g12, F13, b13, g13, F14, b14, g14, F15, b15, g15, F16, b16, g16, F17, b17, g17⟩
  have hsh : ∀ p ∈ shpT, ∃ b, KDct K w aS p.1 (.ref b) ∧ ∀ H, SqT K H b (p.2.map fun s => V.str s.s) :=
    (fa_cons ⟨h0, ⟨esH, nH, _, lSH, kSH, nnull, rfl⟩, fun H => .inr ⟨_, _, _, lnull, rfl, rfl, wnull, vnull⟩⟩ (fa_cons ⟨h1, ⟨esH, nH, _, lSH, kSH, nbool, rfl⟩, fun H => .inr ⟨_, _, _, lbool, rfl, rfl, wbool, vbool⟩⟩ (fa_cons ⟨h2, ⟨esH, nH, _, lSH, kSH, nint, rfl⟩, fun H => .inr ⟨_, _, _, lint, rfl, rfl, wint, vint⟩⟩ (fa_cons ⟨h3, ⟨esH, nH, _, lSH, kSH, ntext, rfl⟩, fun H => .inr ⟨_, _, _, ltext, rfl, rfl, wtext, vtext⟩⟩ (fa_cons ⟨h4, ⟨esH, nH, _, lSH, kSH, nname, rfl⟩, fun H => .inr ⟨_, _, _, lname, rfl, rfl, wname, vname⟩⟩ (fa_cons ⟨h5, ⟨esH, nH, _, lSH, kSH, nassign, rfl⟩, fun H => .inr ⟨_, _, _, lassign, rfl, rfl, wassign, vassign⟩⟩ (fa_cons ⟨h6, ⟨esH, nH, _, lSH, kSH, nset_index, rfl⟩, fun H => .inr ⟨_, _, _, lset_index, rfl, rfl, wset_index, vset_index⟩⟩ (fa_cons ⟨h7, ⟨esH, nH, _, lSH, kSH, nset_field, rfl⟩, fun H => .inr ⟨_, _, _, lset_field, rfl, rfl, wset_field, vset_field⟩⟩ (fa_cons ⟨h8, ⟨esH, nH, _, lSH, kSH, nunary, rfl⟩, fun H => .inr ⟨_, _, _, lunary, rfl, rfl, wunary, vunary⟩⟩ (fa_cons ⟨h9, ⟨esH, nH, _, lSH, kSH, nbinary, rfl⟩, fun H => .inr ⟨_, _, _, lbinary, rfl, rfl, wbinary, vbinary⟩⟩ (fa_cons ⟨h10, ⟨esH, nH, _, lSH, kSH, nboth, rfl⟩, fun H => .inr ⟨_, _, _, lboth, rfl, rfl, wboth, vboth⟩⟩ (fa_cons ⟨h11, ⟨esH, nH, _, lSH, kSH, neither, rfl⟩, fun H => .inr ⟨_, _, _, leither, rfl, rfl, weither, veither⟩⟩ (fa_cons ⟨h12, ⟨esH, nH, _, lSH, kSH, nlist, rfl⟩, fun H => .inr ⟨_, _, _, llist, rfl, rfl, wlist, vlist⟩⟩ (fa_cons ⟨h13, ⟨esH, nH, _, lSH, kSH, nmap, rfl⟩, fun H => .inr ⟨_, _, _, lmap, rfl, rfl, wmap, vmap⟩⟩ (fa_cons ⟨h14, ⟨esH, nH, _, lSH, kSH, nindex, rfl⟩, fun H => .inr ⟨_, _, _, lindex, rfl, rfl, windex, vindex⟩⟩ (fa_cons ⟨h15, ⟨esH, nH, _, lSH, kSH, nfield, rfl⟩, fun H => .inr ⟨_, _, _, lfield, rfl, rfl, wfield, vfield⟩⟩ (fa_cons ⟨h16, ⟨esH, nH, _, lSH, kSH, ncall, rfl⟩, fun H => .inr ⟨_, _, _, lcall, rfl, rfl, wcall, vcall⟩⟩ (fa_cons ⟨h17, ⟨esH, nH, _, lSH, kSH, ninvoke, rfl⟩, fun H => .inr ⟨_, _, _, linvoke, rfl, rfl, winvoke, vinvoke⟩⟩ (fa_cons ⟨h18, ⟨esH, nH, _, lSH, kSH, nsuper, rfl⟩, fun H => .inr ⟨_, _, _, lsuper, rfl, rfl, wsuper, vsuper⟩⟩ (fa_cons ⟨h19, ⟨esH, nH, _, lSH, kSH, nfunction, rfl⟩, fun H => .inr ⟨_, _, _, lfunction, rfl, rfl, wfunction, vfunction⟩⟩ (fa_cons ⟨h20, ⟨esH, nH, _, lSH, kSH, nblock, rfl⟩, fun H => .inr ⟨_, _, _, lblock, rfl, rfl, wblock, vblock⟩⟩ (fa_cons ⟨h21, ⟨esH, nH, _, lSH, kSH, nlet, rfl⟩, fun H => .inr ⟨_, _, _, llet, rfl, rfl, wlet, vlet⟩⟩ (fa_cons ⟨h22, ⟨esH, nH, _, lSH, kSH, ngroup, rfl⟩, fun H => .inr ⟨_, _, _, lgroup, rfl, rfl, wgroup, vgroup⟩⟩ (fa_cons ⟨h23, ⟨esH, nH, _, lSH, kSH, nclass, rfl⟩, fun H => .inr ⟨_, _, _, lclass, rfl, rfl, wclass, vclass⟩⟩ (fa_cons ⟨h24, ⟨esH, nH, _, lSH, kSH, ndo, rfl⟩, fun H => .inr ⟨_, _, _, ldo, rfl, rfl, wdo, vdo⟩⟩ (fa_cons ⟨h25, ⟨esH, nH, _, lSH, kSH, nif, rfl⟩, fun H => .inr ⟨_, _, _, lif, rfl, rfl, wif, vif⟩⟩ (fa_cons ⟨h26, ⟨esH, nH, _, lSH, kSH, nwhile, rfl⟩, fun H => .inr ⟨_, _, _, lwhile, rfl, rfl, wwhile, vwhile⟩⟩ (fa_cons ⟨h27, ⟨esH, nH, _, lSH, kSH, nfor, rfl⟩, fun H => .inr ⟨_, _, _, lfor, rfl, rfl, wfor, vfor⟩⟩ (fa_cons ⟨h28, ⟨esH, nH, _, lSH, kSH, nbreak, rfl⟩, fun H => .inr ⟨_, _, _, lbreak, rfl, rfl, wbreak, vbreak⟩⟩ (fa_cons ⟨h29, ⟨esH, nH, _, lSH, kSH, ncontinue, rfl⟩, fun H => .inr ⟨_, _, _, lcontinue, rfl, rfl, wcontinue, vcontinue⟩⟩ (fa_cons ⟨h30, ⟨esH, nH, _, lSH, kSH, nreturn, rfl⟩, fun H => .inr ⟨_, _, _, lreturn, rfl, rfl, wreturn, vreturn⟩⟩ (fa_cons ⟨h31, ⟨esH, nH, _, lSH, kSH, nthrow, rfl⟩, fun H => .inr ⟨_, _, _, lthrow, rfl, rfl, wthrow, vthrow⟩⟩ (fa_cons ⟨h32, ⟨esH, nH, _, lSH, kSH, ntry, rfl⟩, fun H => .inr ⟨_, _, _, ltry, rfl, rfl, wtry, vtry⟩⟩ fa_nil)))))))))))))))))))))))))))))))))
  have Z : KSh K w mg := ⟨aS, PySem.W.mg_of X G sSH, fun k ss hk => hsh (k, ss) (lookup_mem hk)⟩
  exact ⟨PySem.W.fnOf "law" "law" (defArgs (top 39)) (defBody (top 39)) (defScope (top 39)) .none kV37 dc37 pm37 an37 cd37 ct37, fun s v => .of_eq rfl, fun base _ _ => ok_law F37 Dr Wr Pr Se Z B F5 b5 g5⟩
end My
open PySem PySem.W PyProof.Rows
set_option maxRecDepth 100000 in
set_option maxHeartbeats 0 in
theorem PySem.Challenge.cw_livequill_k14_parts_of_trees_holds : PySem.Challenge.rw_livequill_k14_parts_of_trees.Holds := by
  w_on; o_law; k_head; (case hw => w_witness2)
  k_fill
  refine L2.walk_of (l := PySem.Challenge.rw_livequill_k14_parts_of_trees) (n := 63) (k := 60) (x := "script") (CX := fun _ => L2.CX0) (sp := fun w => My.spLaw _) rfl (by decide) rfl ⟨rfl, by decide, by decide⟩ (fun w h Y => PySem.W.kIn_of Y) ?F (fun _ _ a ns hl _ hS => ⟨a, ns, rfl, hS, hl, fun _ => rfl⟩) (fun _ _ _ _ _ h => h)
  case F =>
    intro w mg fa h KX G hmg
    refine' My.all_mk KX G hmg ?a1 ?l1 ?c1 ?k1 ?a2 ?l2 ?c2 ?k2 ?a3 ?l3 ?c3 ?k3 ?a4 ?l4 ?c4 ?k4 ?a5 ?l5 ?c5 ?k5 ?a6 ?l6 ?c6 ?k6 ?a7 ?l7 ?c7 ?k7 ?a8 ?l8 ?c8 ?k8 ?a9 ?l9 ?c9 ?k9 ?a10 ?l10 ?c10 ?k10 ?a11 ?l11 ?c11 ?k11 ?a12 ?l12 ?c12 ?k12 ?a13 ?l13 ?c13 ?k13 ?a14 ?l14 ?c14 ?k14 ?a15 ?l15 ?c15 ?k15 ?a16 ?l16 ?c16 ?k16 ?a17 ?l17 ?c17 ?k17 ?a18 ?l18 ?c18 ?k18 ?a19 ?l19 ?c19 ?k19 ?a20 ?l20 ?c20 ?k20 ?a21 ?l21 ?c21 ?k21 ?a22 ?l22 ?c22 ?k22 ?a23 ?l23 ?c23 ?k23 ?a24 ?l24 ?c24 ?k24 ?a25 ?l25 ?c25 ?k25 ?a26 ?l26 ?c26 ?k26 ?a27 ?l27 ?c27 ?k27 ?a28 ?l28 ?c28 ?k28 ?a29 ?l29 ?c29 ?k29 ?a30 ?l30 ?c30 ?k30 ?a31 ?l31 ?c31 ?k31 ?a32 ?l32 ?c32 ?k32 ?a33 ?l33 ?c33 ?k33 ?a34 ?l34 ?c34 ?k34 ?a35 ?l35 ?c35 ?k35 ?a36 ?l36 ?c36 ?k36 ?a37 ?l37 ?c37 ?k37 ?z1 ?z2 ?z3 ?z4 ?z5 ?z6 ?z7 ?z8 ?sSH ?lSH ?kSH ?nnull ?lnull ?vnull ?wnull ?nbool ?lbool ?vbool ?wbool ?nint ?lint ?vint ?wint ?ntext ?ltext ?vtext ?wtext ?nname ?lname ?vname ?wname ?nassign ?lassign ?vassign ?wassign ?nset_index ?lset_index ?vset_index ?wset_index ?nset_field ?lset_field ?vset_field ?wset_field ?nunary ?lunary ?vunary ?wunary ?nbinary ?lbinary ?vbinary ?wbinary ?nboth ?lboth ?vboth ?wboth ?neither ?leither ?veither ?weither ?nlist ?llist ?vlist ?wlist ?nmap ?lmap ?vmap ?wmap ?nindex ?lindex ?vindex ?windex ?nfield ?lfield ?vfield ?wfield ?ncall ?lcall ?vcall ?wcall ?ninvoke ?linvoke ?vinvoke ?winvoke ?nsuper ?lsuper ?vsuper ?wsuper ?nfunction ?lfunction ?vfunction ?wfunction ?nblock ?lblock ?vblock ?wblock ?nlet ?llet ?vlet ?wlet ?ngroup ?lgroup ?vgroup ?wgroup ?nclass ?lclass ?vclass ?wclass ?ndo ?ldo ?vdo ?wdo ?nif ?lif ?vif ?wif ?nwhile ?lwhile ?vwhile ?wwhile ?nfor ?lfor ?vfor ?wfor ?nbreak ?lbreak ?vbreak ?wbreak ?ncontinue ?lcontinue ?vcontinue ?wcontinue ?nreturn ?lreturn ?vreturn ?wreturn ?nthrow ?lthrow ?vthrow ?wthrow ?ntry ?ltry ?vtry ?wtry
    (case a1 => k_is)
    (case l1 => k_is)
    (case c1 => k_is)
    (case k1 => k_is)
    (case a2 => k_is)
    (case l2 => k_is)
    (case c2 => k_is)
    (case k2 => k_is)
    (case a3 => k_is)
    (case l3 => k_is)
    (case c3 => k_is)
    (case k3 => k_is)
    (case a4 => k_is)
    (case l4 => k_is)
    (case c4 => k_is)
    (case k4 => k_is)
    (case a5 => k_is)
    (case l5 => k_is)
    (case c5 => k_is)
    (case k5 => k_is)
    (case a6 => k_is)
    (case l6 => k_is)
    (case c6 => k_is)
    (case k6 => k_is)
    (case a7 => k_is)
    (case l7 => k_is)
    (case c7 => k_is)
    (case k7 => k_is)
    (case a8 => k_is)
    (case l8 => k_is)
    (case c8 => k_is)
    (case k8 => k_is)
    (case a9 => k_is)
    (case l9 => k_is)
    (case c9 => k_is)
    (case k9 => k_is)
    (case a10 => k_is)
    (case l10 => k_is)
    (case c10 => k_is)
    (case k10 => k_is)
    (case a11 => k_is)
    (case l11 => k_is)
    (case c11 => k_is)
    (case k11 => k_is)
    (case a12 => k_is)
    (case l12 => k_is)
    (case c12 => k_is)
    (case k12 => k_is)
    (case a13 => k_is)
    (case l13 => k_is)
    (case c13 => k_is)
    (case k13 => k_is)
    (case a14 => k_is)
    (case l14 => k_is)
    (case c14 => k_is)
    (case k14 => k_is)
    (case a15 => k_is)
    (case l15 => k_is)
    (case c15 => k_is)
    (case k15 => k_is)
    (case a16 => k_is)
    (case l16 => k_is)
    (case c16 => k_is)
    (case k16 => k_is)
    (case a17 => k_is)
    (case l17 => k_is)
    (case c17 => k_is)
    (case k17 => k_is)
    (case a18 => k_is)
    (case l18 => k_is)
    (case c18 => k_is)
    (case k18 => k_is)
    (case a19 => k_is)
    (case l19 => k_is)
    (case c19 => k_is)
    (case k19 => k_is)
    (case a20 => k_is)
    (case l20 => k_is)
    (case c20 => k_is)
    (case k20 => k_is)
    (case a21 => k_is)
    (case l21 => k_is)
    (case c21 => k_is)
    (case k21 => k_is)
    (case a22 => k_is)
    (case l22 => k_is)
    (case c22 => k_is)
    (case k22 => k_is)
    (case a23 => k_is)
    (case l23 => k_is)
    (case c23 => k_is)
    (case k23 => k_is)
    (case a24 => k_is)
    (case l24 => k_is)
    (case c24 => k_is)
    (case k24 => k_is)
    (case a25 => k_is)
    (case l25 => k_is)
    (case c25 => k_is)
    (case k25 => k_is)
    (case a26 => k_is)
    (case l26 => k_is)
    (case c26 => k_is)
    (case k26 => k_is)
    (case a27 => k_is)
    (case l27 => k_is)
    (case c27 => k_is)
    (case k27 => k_is)
    (case a28 => k_is)
    (case l28 => k_is)
    (case c28 => k_is)
    (case k28 => k_is)
    (case a29 => k_is)
    (case l29 => k_is)
    (case c29 => k_is)
    (case k29 => k_is)
    (case a30 => k_is)
    (case l30 => k_is)
    (case c30 => k_is)
    (case k30 => k_is)
    (case a31 => k_is)
    (case l31 => k_is)
    (case c31 => k_is)
    (case k31 => k_is)
    (case a32 => k_is)
    (case l32 => k_is)
    (case c32 => k_is)
    (case k32 => k_is)
    (case a33 => k_is)
    (case l33 => k_is)
    (case c33 => k_is)
    (case k33 => k_is)
    (case a34 => k_is)
    (case l34 => k_is)
    (case c34 => k_is)
    (case k34 => k_is)
    (case a35 => k_is)
    (case l35 => k_is)
    (case c35 => k_is)
    (case k35 => k_is)
    (case a36 => k_is)
    (case l36 => k_is)
    (case c36 => k_is)
    (case k36 => k_is)
    (case a37 => k_is)
    (case l37 => k_is)
    (case c37 => k_is)
    (case k37 => k_is)
    (case z1 => k_is)
    (case z2 => k_is)
    (case z3 => k_is)
    (case z4 => k_is)
    (case z5 => k_is)
    (case z6 => k_is)
    (case z7 => k_is)
    (case z8 => k_is)
    (case sSH => k_is)
    (case lSH => k_is)
    (case kSH => repeat' (first | exact trivial | refine ⟨⟨_, _, rfl, rfl⟩, ?_⟩))
    (case nnull => k_is)
    (case lnull => k_is)
    (case vnull => repeat (first | exact PySem.Paired.nil | refine PySem.Paired.cons ⟨_, rfl⟩ ?_))
    (case wnull => (rw [sizeLine_eq]; decide))
    (case nbool => k_is)
    (case lbool => k_is)
    (case vbool => repeat (first | exact PySem.Paired.nil | refine PySem.Paired.cons ⟨_, rfl⟩ ?_))
    (case wbool => (rw [sizeLine_eq]; decide))
    (case nint => k_is)
    (case lint => k_is)
    (case vint => repeat (first | exact PySem.Paired.nil | refine PySem.Paired.cons ⟨_, rfl⟩ ?_))
    (case wint => (rw [sizeLine_eq]; decide))
    (case ntext => k_is)
    (case ltext => k_is)
    (case vtext => repeat (first | exact PySem.Paired.nil | refine PySem.Paired.cons ⟨_, rfl⟩ ?_))
    (case wtext => (rw [sizeLine_eq]; decide))
    (case nname => k_is)
    (case lname => k_is)
    (case vname => repeat (first | exact PySem.Paired.nil | refine PySem.Paired.cons ⟨_, rfl⟩ ?_))
    (case wname => (rw [sizeLine_eq]; decide))
    (case nassign => k_is)
    (case lassign => k_is)
    (case vassign => repeat (first | exact PySem.Paired.nil | refine PySem.Paired.cons ⟨_, rfl⟩ ?_))
    (case wassign => (rw [sizeLine_eq]; decide))
    (case nset_index => k_is)
    (case lset_index => k_is)
    (case vset_index => repeat (first | exact PySem.Paired.nil | refine PySem.Paired.cons ⟨_, rfl⟩ ?_))
    (case wset_index => (rw [sizeLine_eq]; decide))
    (case nset_field => k_is)
    (case lset_field => k_is)
    (case vset_field => repeat (first | exact PySem.Paired.nil | refine PySem.Paired.cons ⟨_, rfl⟩ ?_))
    (case wset_field => (rw [sizeLine_eq]; decide))
    (case nunary => k_is)
    (case lunary => k_is)
    (case vunary => repeat (first | exact PySem.Paired.nil | refine PySem.Paired.cons ⟨_, rfl⟩ ?_))
    (case wunary => (rw [sizeLine_eq]; decide))
    (case nbinary => k_is)
    (case lbinary => k_is)
    (case vbinary => repeat (first | exact PySem.Paired.nil | refine PySem.Paired.cons ⟨_, rfl⟩ ?_))
    (case wbinary => (rw [sizeLine_eq]; decide))
    (case nboth => k_is)
    (case lboth => k_is)
    (case vboth => repeat (first | exact PySem.Paired.nil | refine PySem.Paired.cons ⟨_, rfl⟩ ?_))
    (case wboth => (rw [sizeLine_eq]; decide))
    (case neither => k_is)
    (case leither => k_is)
    (case veither => repeat (first | exact PySem.Paired.nil | refine PySem.Paired.cons ⟨_, rfl⟩ ?_))
    (case weither => (rw [sizeLine_eq]; decide))
    (case nlist => k_is)
    (case llist => k_is)
    (case vlist => repeat (first | exact PySem.Paired.nil | refine PySem.Paired.cons ⟨_, rfl⟩ ?_))
    (case wlist => (rw [sizeLine_eq]; decide))
    (case nmap => k_is)
    (case lmap => k_is)
    (case vmap => repeat (first | exact PySem.Paired.nil | refine PySem.Paired.cons ⟨_, rfl⟩ ?_))
    (case wmap => (rw [sizeLine_eq]; decide))
    (case nindex => k_is)
    (case lindex => k_is)
    (case vindex => repeat (first | exact PySem.Paired.nil | refine PySem.Paired.cons ⟨_, rfl⟩ ?_))
    (case windex => (rw [sizeLine_eq]; decide))
    (case nfield => k_is)
    (case lfield => k_is)
    (case vfield => repeat (first | exact PySem.Paired.nil | refine PySem.Paired.cons ⟨_, rfl⟩ ?_))
    (case wfield => (rw [sizeLine_eq]; decide))
    (case ncall => k_is)
    (case lcall => k_is)
    (case vcall => repeat (first | exact PySem.Paired.nil | refine PySem.Paired.cons ⟨_, rfl⟩ ?_))
    (case wcall => (rw [sizeLine_eq]; decide))
    (case ninvoke => k_is)
    (case linvoke => k_is)
    (case vinvoke => repeat (first | exact PySem.Paired.nil | refine PySem.Paired.cons ⟨_, rfl⟩ ?_))
    (case winvoke => (rw [sizeLine_eq]; decide))
    (case nsuper => k_is)
    (case lsuper => k_is)
    (case vsuper => repeat (first | exact PySem.Paired.nil | refine PySem.Paired.cons ⟨_, rfl⟩ ?_))
    (case wsuper => (rw [sizeLine_eq]; decide))
    (case nfunction => k_is)
    (case lfunction => k_is)
    (case vfunction => repeat (first | exact PySem.Paired.nil | refine PySem.Paired.cons ⟨_, rfl⟩ ?_))
    (case wfunction => (rw [sizeLine_eq]; decide))
    (case nblock => k_is)
    (case lblock => k_is)
    (case vblock => repeat (first | exact PySem.Paired.nil | refine PySem.Paired.cons ⟨_, rfl⟩ ?_))
    (case wblock => (rw [sizeLine_eq]; decide))
    (case nlet => k_is)
    (case llet => k_is)
    (case vlet => repeat (first | exact PySem.Paired.nil | refine PySem.Paired.cons ⟨_, rfl⟩ ?_))
    (case wlet => (rw [sizeLine_eq]; decide))
    (case ngroup => k_is)
    (case lgroup => k_is)
    (case vgroup => repeat (first | exact PySem.Paired.nil | refine PySem.Paired.cons ⟨_, rfl⟩ ?_))
    (case wgroup => (rw [sizeLine_eq]; decide))
    (case nclass => k_is)
    (case lclass => k_is)
    (case vclass => repeat (first | exact PySem.Paired.nil | refine PySem.Paired.cons ⟨_, rfl⟩ ?_))
    (case wclass => (rw [sizeLine_eq]; decide))
    (case ndo => k_is)
    (case ldo => k_is)
    (case vdo => repeat (first | exact PySem.Paired.nil | refine PySem.Paired.cons ⟨_, rfl⟩ ?_))
    (case wdo => (rw [sizeLine_eq]; decide))
    (case nif => k_is)
    (case lif => k_is)
    (case vif => repeat (first | exact PySem.Paired.nil | refine PySem.Paired.cons ⟨_, rfl⟩ ?_))
    (case wif => (rw [sizeLine_eq]; decide))
    (case nwhile => k_is)
    (case lwhile => k_is)
    (case vwhile => repeat (first | exact PySem.Paired.nil | refine PySem.Paired.cons ⟨_, rfl⟩ ?_))
    (case wwhile => (rw [sizeLine_eq]; decide))
    (case nfor => k_is)
    (case lfor => k_is)
    (case vfor => repeat (first | exact PySem.Paired.nil | refine PySem.Paired.cons ⟨_, rfl⟩ ?_))
    (case wfor => (rw [sizeLine_eq]; decide))
    (case nbreak => k_is)
    (case lbreak => k_is)
    (case vbreak => repeat (first | exact PySem.Paired.nil | refine PySem.Paired.cons ⟨_, rfl⟩ ?_))
    (case wbreak => (rw [sizeLine_eq]; decide))
    (case ncontinue => k_is)
    (case lcontinue => k_is)
    (case vcontinue => repeat (first | exact PySem.Paired.nil | refine PySem.Paired.cons ⟨_, rfl⟩ ?_))
    (case wcontinue => (rw [sizeLine_eq]; decide))
    (case nreturn => k_is)
    (case lreturn => k_is)
    (case vreturn => repeat (first | exact PySem.Paired.nil | refine PySem.Paired.cons ⟨_, rfl⟩ ?_))
    (case wreturn => (rw [sizeLine_eq]; decide))
    (case nthrow => k_is)
    (case lthrow => k_is)
    (case vthrow => repeat (first | exact PySem.Paired.nil | refine PySem.Paired.cons ⟨_, rfl⟩ ?_))
    (case wthrow => (rw [sizeLine_eq]; decide))
    (case ntry => k_is)
    (case ltry => k_is)
    (case vtry => repeat (first | exact PySem.Paired.nil | refine PySem.Paired.cons ⟨_, rfl⟩ ?_))
    (case wtry => (rw [sizeLine_eq]; decide))
