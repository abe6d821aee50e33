/-
  Layer 4 as plain functions of lists of bytes: a token at the head of a text, all tokens of a text, tokens written.
-/
import Derived.Test.YtjlecollphgmcaaDoorLexPure
import Derived.Lib.ItoaNum
namespace Go.Proofs.YtjlecollphgmcaaDoor

/-- A token at the head of a text: its kind, number and text, how many bytes it takes; or (e not 0) an error, and its place. -/
structure Rd where
  kind : Int
  n : Int
  s : List UInt8
  k : Nat
  e : Int
def okR (kind n : Int) (s : List UInt8) (k : Nat) : Rd := ⟨kind, n, s, k, 0⟩
def noR (k : Nat) (e : Int) : Rd := ⟨0, 0, [], k, e⟩

/-! ### Strings -/
/-- A digit of 0 to 7. -/
def od (b : UInt8) : Bool := decide (48 ≤ b.toNat) && decide (b.toNat ≤ 55)
def on : Nat → List UInt8 → Nat
  | 0, _ => 0
  | _ + 1, [] => 0
  | m + 1, b :: t => if od b then on m t + 1 else 0
/-- How many of them, three at most. -/
def octN (d : List UInt8) : Nat := on 3 d
def octF (v : Nat) (l : List UInt8) : Nat := l.foldl (fun v b => v * 8 + (b.toNat - 48)) v
def octB (d : List UInt8) : UInt8 := UInt8.ofNat (octF 0 (d.take (octN d)))
/-- How many bytes the end of a line has. -/
def len : List UInt8 → Nat
  | [] => 0
  | b :: t => if b = 13 then (if t.head? = some 10 then 2 else 1) else if b = 10 then 1 else 0
def esc1 (b : UInt8) : UInt8 := if b = 110 then 10 else if b = 114 then 13 else if b = 116 then 9 else if b = 98 then 8 else if b = 102 then 12 else b
/-- What a backslash tells that a text stands behind, and how many bytes of it it takes. -/
def esB (d : List UInt8) : List UInt8 := if len d = 0 then (if octN d = 0 then (match d with | [] => [] | b :: _ => [esc1 b]) else [octB d]) else []
def esN (d : List UInt8) : Nat := if len d = 0 then (if octN d = 0 then (match d with | [] => 0 | _ :: _ => 1) else octN d) else len d

inductive Stp where
  | stop (k : Nat) (e : Int)
  | go (o : List UInt8) (n : Nat) (deep : Nat)
/-- A step in a string. -/
def stp (deep : Nat) : List UInt8 → Stp
  | [] => .stop 0 2
  | b :: t => if b = 40 then (if deep = 32 then .stop 0 5 else .go [40] 1 (deep + 1)) else if b = 41 then (if deep = 1 then .stop 1 0 else .go [41] 1 (deep - 1)) else if b = 92 then .go (esB t) (1 + esN t) deep else if b = 13 then .go [10] (len (b :: t)) deep else .go [b] 1 deep
structure Sr where
  s : List UInt8
  k : Nat
  e : Int
def Sr.add (o : List UInt8) (n : Nat) (r : Sr) : Sr := ⟨o ++ r.s, n + r.k, r.e⟩
theorem stp_pos {deep : Nat} {d o : List UInt8} {n deep' : Nat} (h : stp deep d = .go o n deep') : 0 < n ∧ d ≠ [] := by
  cases d with
  | nil => simp [stp] at h
  | cons b t =>
    refine ⟨?_, by simp⟩
    simp only [stp] at h
    repeat' split at h
    all_goals first | cases h | skip
    all_goals first | omega | (simp only [len]; split <;> first | (split <;> omega) | contradiction)
/-- All of a string's bytes behind its first bracket. -/
def strT (deep : Nat) (d : List UInt8) : Sr :=
  match _h : stp deep d with
  | .stop k e => ⟨[], k, e⟩
  | .go o n deep' => Sr.add o n (strT deep' (d.drop n))
termination_by d.length
decreasing_by
  obtain ⟨h1, h2⟩ := stp_pos _h
  have := List.length_pos_iff.2 h2
  rw [List.length_drop]
  omega

/-! ### Tokens -/
/-- How many bytes stand ahead of the first ">". -/
def gt : List UInt8 → Nat
  | [] => 0
  | b :: t => if b = 62 then 0 else gt t + 1
def tkHex (t : List UInt8) : Rd :=
  if gt t < t.length then (if unE (t.take (gt t)) = 0 then okR 4 0 (unB (t.take (gt t))) (gt t + 2) else noR (1 + bad (t.take (gt t))) (unE (t.take (gt t)))) else noR (1 + t.length) 2
def tkStr (t : List UInt8) : Rd := if (strT 1 t).e = 0 then okR 5 0 (strT 1 t).s (1 + (strT 1 t).k) else noR (1 + (strT 1 t).k) (strT 1 t).e
def tkWord (d : List UInt8) : Rd :=
  if inE (d.take (wn d)) = 0 then okR 1 (inN (d.take (wn d))) [] (wn d) else if inE (d.take (wn d)) = 3 then okR 3 0 (d.take (wn d)) (wn d) else noR 0 (inE (d.take (wn d)))
/-- The kind of the mark at the head, 0 if there is none. -/
def mk : List UInt8 → Nat
  | [] => 0
  | b :: t => if b = 91 then 6 else if b = 93 then 7 else if b = 60 then (if t.head? = some 60 then 8 else 0) else if b = 62 then (if t.head? = some 62 then 9 else 0) else if b = 123 then 10 else if b = 125 then 11 else 0
def mkL (n : Nat) : List UInt8 := if n = 6 then [91] else if n = 7 then [93] else if n = 8 then [60, 60] else if n = 9 then [62, 62] else if n = 10 then [123] else if n = 11 then [125] else []
/-- The token at the head of a text that begins with no blank and no remark. -/
def tk (d : List UInt8) : Rd :=
  if mk d = 0 then
    match d with
    | [] => noR 0 0
    | b :: t => if b = 41 ∨ b = 62 then noR 0 3 else if b = 47 then okR 2 0 (nameL (t.take (wn t))) (1 + wn t) else if b = 60 then tkHex t else if b = 40 then tkStr t else tkWord (b :: t)
  else okR (mk d) 0 [] (mkL (mk d)).length

/-- A token, with its place. -/
structure Tk where
  kind : Int
  at_ : Int
  n : Int
  s : List UInt8
def Rd.tok (r : Rd) (p : Nat) : Tk := ⟨r.kind, p, r.n, r.s⟩
/-- All tokens of a text that begins at a place; how many bytes it has, or an error and its place. -/
structure Al where
  l : List Tk
  k : Nat
  e : Int
def Al.add (t : Tk) (a : Al) : Al := if a.e = 0 then ⟨t :: a.l, a.k, 0⟩ else a
def all (p : Nat) (d : List UInt8) : Al :=
  if d.length ≤ sk false d then ⟨[], p + d.length, 0⟩
  else
    let r := tk (d.drop (sk false d))
    if r.e = 0 then Al.add (r.tok (p + sk false d)) (all (p + sk false d + r.k) (d.drop (sk false d + max 1 r.k)))
    else ⟨[], p + sk false d + r.k, r.e⟩
termination_by d.length
decreasing_by rw [List.length_drop]; omega

/-! ### Written -/
def sneed (b : UInt8) : Bool := b == 40 || b == 41 || b == 92 || decide (b.toNat < 32) || decide (126 < b.toNat)
def sb (b : UInt8) : List UInt8 := if sneed b then [92, UInt8.ofNat (48 + b.toNat / 64), UInt8.ofNat (48 + b.toNat / 8 % 8), UInt8.ofNat (48 + b.toNat % 8)] else [b]
def qL (l : List UInt8) : List UInt8 := l.flatMap sb
def sh (t : Tk) : List UInt8 :=
  if t.kind = 1 then Lib.itoa t.n else if t.kind = 2 then 47 :: wrL t.s else if t.kind = 3 then t.s else if t.kind = 4 then 60 :: (hexL t.s ++ [62]) else if t.kind = 5 then 40 :: (qL t.s ++ [41]) else mkL t.kind.toNat
/-- Several, a blank between each two. -/
def jn : List (List UInt8) → List UInt8
  | [] => []
  | [a] => a
  | a :: b :: r => a ++ 32 :: jn (b :: r)
def txL (l : List Tk) : List UInt8 := jn (l.map sh)
end Go.Proofs.YtjlecollphgmcaaDoor
