import Derived.WalkKit
import Derived.WalkLawsBesides
namespace Go.Ab
open Go

/-- A number of elements: told, or at least so many, or whatever. -/
inductive Num where
  | lit (n : Nat)
  | ge (lo n : Nat)
  | sym (n : Nat)

def Num.val : Num → Nat
  | .lit n => n
  | .ge _ n => n
  | .sym n => n

/-- Abstract values. -/
inductive AVal where
  | bad
  | bool (b : Bool)
  | sbool (b : Bool)
  | int (k : IntKind) (n : Int)
  | sint (k : IntKind) (n : Int)
  | cbool (c b : Bool)
  | cint (c : Bool) (k : IntKind) (n : Int)
  | flt (k : FloatKind) (b : Nat)
  | lint (k : IntKind) (lo : Nat) (n : Nat)
  | ptr (i o : Nat)
  | vptr (i e k o : Nat)
  | slice (i o len cap : Nat)
  | vec (i e a : Nat) (n : Num)
  | raw (v : Value)
  | fn (f : Fn) (xs ys : List AVal)
  | ifc (t : TypeId) (x : AVal)
  | agg (cs : List AVal)
  | tuple (vs : List AVal)

def nanW : FloatKind → Nat
  | .f32 => 0x7fc00000
  | .f64 => 0x7ff8000000000000

def isNaNW (k : FloatKind) (b : Nat) : Bool := (k.format.read b).isNaN

def fopImpl (op : BinOp) (k : FloatKind) (x y : Nat) : Nat := (floatBits op k x y).getD (nanW k)
theorem fop_ex : ∃ f, f = fopImpl := ⟨_, rfl⟩
noncomputable def fop : BinOp → FloatKind → Nat → Nat → Nat := Classical.choose fop_ex
theorem fop_eq : fop = fopImpl := Classical.choose_spec fop_ex

def fltImpl (k : FloatKind) (x y : Nat) : Bool := k.format.order x y == some .lt
theorem flt_ex : ∃ f, f = fltImpl := ⟨_, rfl⟩
noncomputable def fltB : FloatKind → Nat → Nat → Bool := Classical.choose flt_ex
theorem fltB_eq : fltB = fltImpl := Classical.choose_spec flt_ex

def feqImpl (k : FloatKind) (x y : Nat) : Bool := k.format.order x y == some .eq
theorem feq_ex : ∃ f, f = feqImpl := ⟨_, rfl⟩
noncomputable def feqB : FloatKind → Nat → Nat → Bool := Classical.choose feq_ex
theorem feqB_eq : feqB = feqImpl := Classical.choose_spec feq_ex

noncomputable def fleB (k : FloatKind) (x y : Nat) : Bool := fltB k x y || feqB k x y

def fminImpl (k : FloatKind) (x y : Nat) : Nat := match k.format.order x y with
  | none => nanW k | some .lt => x | some .gt => y | some .eq => if (k.decode x).neg then x else y
def fmaxImpl (k : FloatKind) (x y : Nat) : Nat := match k.format.order x y with
  | none => nanW k | some .lt => y | some .gt => x | some .eq => if (k.decode x).neg then y else x
theorem fmin_ex : ∃ f, f = fminImpl := ⟨_, rfl⟩
noncomputable def fmin : FloatKind → Nat → Nat → Nat := Classical.choose fmin_ex
theorem fmin_eq : fmin = fminImpl := Classical.choose_spec fmin_ex
theorem fmax_ex : ∃ f, f = fmaxImpl := ⟨_, rfl⟩
noncomputable def fmax : FloatKind → Nat → Nat → Nat := Classical.choose fmax_ex
theorem fmax_eq : fmax = fmaxImpl := Classical.choose_spec fmax_ex

/-- float64(x) of a float32. -/
def wideImpl (x : Nat) : Nat := (floatToFloatBits .f32 x .f64).getD (nanW .f64)
theorem wide_ex : ∃ f, f = wideImpl := ⟨_, rfl⟩
noncomputable def wide : Nat → Nat := Classical.choose wide_ex
theorem wide_eq : wide = wideImpl := Classical.choose_spec wide_ex

theorem ofInt_ex : ∃ f, f = floatOfInt := ⟨_, rfl⟩
noncomputable def ofInt : FloatKind → Int → Nat := Classical.choose ofInt_ex
theorem ofInt_eq : ofInt = floatOfInt := Classical.choose_spec ofInt_ex

theorem nanB_ex : ∃ f, f = isNaNW := ⟨_, rfl⟩
noncomputable def nanB : FloatKind → Nat → Bool := Classical.choose nanB_ex
theorem nanB_eq : nanB = isNaNW := Classical.choose_spec nanB_ex

noncomputable def fneg (k : FloatKind) (b : Nat) : Nat := Op.negFloat k b

/-- What a cell of a row is. -/
inductive CK where
  | f32 | int (k : IntKind) | bool

/-- A row of elements. -/
structure Vc where
  sh : List CK
  n : Num
  fd : Nat → Nat → Nat
  gd : Nat → Nat → Int
  bd : Nat → Nat → Bool
  wr : Bool

def lenL {α : Type} : List α → Nat
  | [] => 0
  | _ :: r => Nat.succ (lenL r)

def Vc.mkA (v : Vc) (k o : Nat) : CK → AVal
  | .f32 => .flt .f32 (v.fd k o)
  | .int t => .sint t (v.gd k o)
  | .bool => .sbool (v.bd k o)

def nthC (o : Nat) : List CK → Option CK
  | [] => none
  | c :: r => match o with | 0 => some c | o + 1 => nthC o r

def Vc.atA (v : Vc) (k o : Nat) : AVal := match nthC o v.sh with | some c => v.mkA k o c | none => .bad

structure Blk where
  cells : List AVal
  wr : Bool
  vc : Option Vc

/-- The full abstract state. -/
structure St where
  fr : List AVal
  ovs : List (List (Nat × AVal))
  hp : List Blk
  hvs : List (List ((Nat × Nat) × AVal))
  vvs : List (List (Nat × Vc))
  dfs : List (AVal × List AVal)

structure Dl where
  ov : List (Nat × AVal)
  hv : List ((Nat × Nat) × AVal)
  vv : List (Nat × Vc)
  nw : List Blk
  df : List (AVal × List AVal)
  nd : Bool

def Dl.nil : Dl := ⟨[], [], [], [], [], true⟩

/-- One slot more. -/
def Dl.one (t : Nat) (v : AVal) : Dl := ⟨[(t, v)], [], [], [], [], true⟩

def St.ext (S : St) (d : Dl) : St := ⟨S.fr, d.ov :: S.ovs, S.hp ++ d.nw, d.hv :: S.hvs, d.vv :: S.vvs, d.df ++ S.dfs⟩

def look1 (t : Nat) : List (Nat × AVal) → Option AVal
  | [] => none
  | (k, v) :: r => match Nat.beq t k with | true => some v | false => look1 t r

def lookL (t : Nat) : List (List (Nat × AVal)) → Option AVal
  | [] => none
  | l :: r => match look1 t l with | some v => some v | none => lookL t r

def nth (t : Nat) : List AVal → AVal
  | [] => .bad
  | v :: r => match t with | 0 => v | t + 1 => nth t r

def St.get (S : St) (t : Nat) : AVal := match lookL t S.ovs with | some v => v | none => nth t S.fr

def hlook1 (i o : Nat) : List ((Nat × Nat) × AVal) → Option AVal
  | [] => none
  | (k, v) :: r => match Nat.beq i k.1 && Nat.beq o k.2 with | true => some v | false => hlook1 i o r

def hlookL (i o : Nat) : List (List ((Nat × Nat) × AVal)) → Option AVal
  | [] => none
  | l :: r => match hlook1 i o l with | some v => some v | none => hlookL i o r

def vlook1 (i : Nat) : List (Nat × Vc) → Option Vc
  | [] => none
  | (k, v) :: r => match Nat.beq i k with | true => some v | false => vlook1 i r

def vlookL (i : Nat) : List (List (Nat × Vc)) → Option Vc
  | [] => none
  | l :: r => match vlook1 i l with | some v => some v | none => vlookL i r

def nthB (t : Nat) : List Blk → Blk
  | [] => ⟨[], false, none⟩
  | v :: r => match t with | 0 => v | t + 1 => nthB t r

def St.blk (S : St) (i : Nat) : Blk := nthB i S.hp

def St.cell (S : St) (i o : Nat) : Option AVal :=
  match Nat.ble (o + 1) (S.blk i).cells.length with
  | true => match hlookL i o S.hvs with | some v => some v | none => some (nth o (S.blk i).cells)
  | false => none

/-- The row of a block. -/
def St.vec (S : St) (i : Nat) : Option Vc :=
  match (S.blk i).cells, (S.blk i).vc with
  | [], some v => match vlookL i S.vvs with | some u => some u | none => some v
  | _, _ => none

/-- Something is known of the block. -/
def St.live (S : St) (i : Nat) : Bool :=
  match (S.blk i).cells with
  | [] => match S.vec i with | some v => (match v.sh with | [] => false | _ :: _ => true) | none => false
  | _ :: _ => true

def St.cellsAt (S : St) (i : Nat) : Nat → Nat → Option (List AVal)
  | _, 0 => some []
  | o, n + 1 => match S.cell i o with
    | some v => match S.cellsAt i (o + 1) n with | some r => some (v :: r) | none => none
    | none => none

/-- Cells of an element. -/
def Vc.cellsAt (v : Vc) (k : Nat) : Nat → Nat → Option (List AVal)
  | _, 0 => some []
  | o, n + 1 => match nthC o v.sh with
    | some c => match v.cellsAt k (o + 1) n with | some r => some (v.mkA k o c :: r) | none => none
    | none => none

def wordTop : FloatKind → Nat
  | .f32 => 4294967296
  | .f64 => 18446744073709551616

def absV : Value → AVal
  | .bool b => .bool b
  | .int k n => .int k n
  | .float k b => match Nat.ble (b + 1) (wordTop k) with | true => .flt k b | false => .raw (.float k b)
  | v => .raw v

def absC (cs : List Value) : List AVal := cs.map absV

def opd (S : St) : Operand → AVal
  | .tmp t => S.get t
  | .const v => match v with
    | .agg cs => .agg (absC cs.toList)
    | v => absV v
  | .global g => .raw (.pointer (some ⟨g, 0, none⟩))
  | .func f => .fn (.func f) [] []

def AVal.cells : AVal → List AVal
  | .agg cs => cs
  | v => [v]

def natCond (b : Bool) (x y : Nat) : Nat := cond b x y

def sameFn : Fn → Fn → Bool
  | .func f, .func g => Nat.beq f g
  | _, _ => false

/-- Surely the same numbers. -/
def sameNum (a a' : Nat) : Num → Num → Bool
  | .lit n, .lit n' => Nat.beq a a' && Nat.beq n n'
  | _, _ => false

/-- Merge two values: the first where 'b' holds. -/
def mergeV (b : Bool) : AVal → AVal → AVal
  | .bool x, .bool y => .sbool (cond b x y)
  | .bool x, .sbool y => .sbool (cond b x y)
  | .sbool x, .bool y => .sbool (cond b x y)
  | .sbool x, .sbool y => .sbool (cond b x y)
  | .bool x, .cbool c y => .cbool (cond b true c) (cond b x y)
  | .sbool x, .cbool c y => .cbool (cond b true c) (cond b x y)
  | .cbool c x, .bool y => .cbool (cond b c true) (cond b x y)
  | .cbool c x, .sbool y => .cbool (cond b c true) (cond b x y)
  | .cbool c x, .cbool d y => .cbool (cond b c d) (cond b x y)
  | .int k x, .int k' y => match decide (k = k') with | true => (match decide (x = y) with | true => .int k x | false => .sint k (cond b x y)) | false => .bad
  | .int k x, .sint k' y => match decide (k = k') with | true => .sint k (cond b x y) | false => .bad
  | .sint k x, .int k' y => match decide (k = k') with | true => .sint k (cond b x y) | false => .bad
  | .sint k x, .sint k' y => match decide (k = k') with | true => .sint k (cond b x y) | false => .bad
  | .int k x, .cint c k' y => match decide (k = k') with | true => .cint (cond b true c) k (cond b x y) | false => .bad
  | .sint k x, .cint c k' y => match decide (k = k') with | true => .cint (cond b true c) k (cond b x y) | false => .bad
  | .cint c k x, .int k' y => match decide (k = k') with | true => .cint (cond b c true) k (cond b x y) | false => .bad
  | .cint c k x, .sint k' y => match decide (k = k') with | true => .cint (cond b c true) k (cond b x y) | false => .bad
  | .cint c k x, .cint d k' y => match decide (k = k') with | true => .cint (cond b c d) k (cond b x y) | false => .bad
  | .flt k x, .flt k' y => match decide (k = k') with | true => .flt k (cond b x y) | false => .bad
  | .ptr i o, .ptr i' o' => match Nat.beq i i' && Nat.beq o o' with | true => .ptr i o | false => .bad
  | .slice i o l c, .slice i' o' l' c' => match Nat.beq i i' && Nat.beq o o' && Nat.beq l l' && Nat.beq c c' with | true => .slice i o l c | false => .bad
  | .lint k _ x, .lint k' _ y => match decide (k = k') with | true => .sint k (cond b (Int.ofNat x) (Int.ofNat y)) | false => .bad
  | .lint k _ x, .int k' y => match decide (k = k') with | true => .sint k (cond b (Int.ofNat x) y) | false => .bad
  | .lint k _ x, .sint k' y => match decide (k = k') with | true => .sint k (cond b (Int.ofNat x) y) | false => .bad
  | .int k x, .lint k' _ y => match decide (k = k') with | true => .sint k (cond b x (Int.ofNat y)) | false => .bad
  | .sint k x, .lint k' _ y => match decide (k = k') with | true => .sint k (cond b x (Int.ofNat y)) | false => .bad
  | .vec i e a n, .vec i' e' a' n' => match Nat.beq i i' && Nat.beq e e' with
    | true => match sameNum a a' n n' with | true => .vec i e a n | false => .bad
    | false => .bad
  | .fn f xs ys, .fn f' xs' ys' => match sameFn f f' && Nat.beq xs.length xs'.length && Nat.beq ys.length ys'.length with
    | true => .fn f (mergeL b xs xs') (mergeL b ys ys')
    | false => .bad
  | .ifc t x, .ifc t' y => match Nat.beq t t' with | true => .ifc t (mergeV b x y) | false => .bad
  | .agg xs, .agg ys => match Nat.beq xs.length ys.length with | true => .agg (mergeL b xs ys) | false => .bad
  | .tuple xs, .tuple ys => match Nat.beq xs.length ys.length with | true => .tuple (mergeL b xs ys) | false => .bad
  | _, _ => .bad
where
  mergeL (b : Bool) : List AVal → List AVal → List AVal
  | x :: xs, y :: ys => mergeV b x y :: mergeL b xs ys
  | _, _ => []

end Go.Ab

namespace Go.Ab
open Go

/-! Types, off the program's own tables. -/
inductive Kd where
  | int (k : IntKind) | flt (k : FloatKind) | bool | str
  | arr (len elem : Nat) | struct (fs : List Field) | slice (elem : Nat) | other

def kd (P : Program) (t : TypeId) : Option Kd :=
  match P.underlying t with
  | some (.int k) => some (.int k)
  | some (.float k) => some (.flt k)
  | some .bool => some .bool
  | some .string => some .str
  | some (.array n e) => some (.arr n e)
  | some (.struct fs) => some (.struct fs.toList)
  | some (.slice e) => some (.slice e)
  | some _ => some .other
  | none => none

def Kd.isAgg : Kd → Bool
  | .arr _ _ => true
  | .struct _ => true
  | _ => false

def tsize (P : Program) (t : TypeId) : Option Nat := match P.info? t with | some i => some i.size | none => none

def tzero (P : Program) (t : TypeId) : Option Value := match P.info? t with | some i => i.zero | none => none

/-- A contract: (x: it has no body) from the arguments (pointers and slices lead to the views 0, 1, ..) and what the views hold, the answer and what the views hold then (none: as before). -/
inductive Xk where
  | f32bits | f64bits | f32from | f64from

structure Out where
  v : AVal
  hv : List ((Nat × Nat) × AVal)
  vv : List (Nat × Vc)
  nw : List Blk
  nd : Bool
  pn : Option (Bool × AVal)

def pureO (v : AVal) : Option Out := some ⟨v, [], [], [], true, none⟩
/-- A value, where a condition is met. -/
def needO (c : Bool) (v : AVal) : Option Out := some ⟨v, [], [], [], c, none⟩

structure Ctr where
  fn : List AVal → St → Option Out
  x : Option Xk := none

/-- Functions without a body. -/
noncomputable def evExt (k : Xk) (args : List AVal) : Option AVal :=
  match k, args with
  | .f32bits, [.flt .f32 b] => some (.cint (!nanB .f32 b) .u32 (Int.ofNat b))
  | .f64bits, [.flt .f64 b] => some (.cint (!nanB .f64 b) .u64 (Int.ofNat b))
  | .f32from, [.int .u32 n] => match Nat.ble (n.toNat + 1) (wordTop .f32) with | true => some (.flt .f32 n.toNat) | false => none
  | .f64from, [.int .u64 n] => match Nat.ble (n.toNat + 1) (wordTop .f64) with | true => some (.flt .f64 n.toNat) | false => none
  | _, _ => none

def lookC (f : Nat) : List (Nat × Ctr) → Option Ctr
  | [] => none
  | (g, c) :: r => match Nat.beq f g with | true => some c | false => lookC f r

/-- No pointer of the call's own in it. -/
def AVal.flat : AVal → Bool
  | .bad => false
  | .ptr _ _ => false
  | .vptr _ _ _ _ => false
  | .slice _ _ _ _ => false
  | .vec _ _ _ _ => false
  | .fn _ xs ys => match flatL xs with | true => flatL ys | false => false
  | .ifc _ x => x.flat
  | .agg cs => flatL cs
  | .tuple cs => flatL cs
  | _ => true
where flatL : List AVal → Bool
  | [] => true
  | c :: r => match c.flat with | true => flatL r | false => false

/-- Only what was there below a number of blocks. -/
def AVal.under (n : Nat) : AVal → Bool
  | .bad => false
  | .ptr i _ => Nat.ble (i + 1) n
  | .vptr i _ _ _ => Nat.ble (i + 1) n
  | .slice i _ _ _ => Nat.ble (i + 1) n
  | .vec i _ _ _ => Nat.ble (i + 1) n
  | .fn _ xs ys => match underL n xs with | true => underL n ys | false => false
  | .ifc _ x => x.under n
  | .agg cs => underL n cs
  | .tuple cs => underL n cs
  | _ => true
where underL (n : Nat) : List AVal → Bool
  | [] => true
  | c :: r => match c.under n with | true => underL n r | false => false

/-- Sure to be the value of one cell. -/
def AVal.oneA : AVal → Bool
  | .bad => false
  | .agg _ => false
  | .tuple _ => false
  | .raw v => v.oneCell'
  | _ => true

def allOne : List AVal → Bool
  | [] => true
  | v :: r => match v.oneA with | true => allOne r | false => false

def storeL (i : Nat) : Nat → List AVal → List ((Nat × Nat) × AVal)
  | _, [] => []
  | o, v :: r => ((i, o), v) :: storeL i (o + 1) r

def wrapK (k : IntKind) (n : Int) : Int := k.wrap n

def arith (op : BinOp) (k : IntKind) (x y : Int) : Option Int :=
  match op with
  | .add => some (k.wrap (x + y))
  | .sub => some (k.wrap (x - y))
  | .mul => some (k.wrap (x * y))
  | .and => some (k.wrap (BitVec.ofInt k.bits x &&& BitVec.ofInt k.bits y).toNat)
  | .or => some (k.wrap (BitVec.ofInt k.bits x ||| BitVec.ofInt k.bits y).toNat)
  | .xor => some (k.wrap (BitVec.ofInt k.bits x ^^^ BitVec.ofInt k.bits y).toNat)
  | _ => none

def icmp (op : BinOp) (x y : Int) : Option Bool :=
  match op with
  | .eql => some (x == y)
  | .neq => some (x != y)
  | .lss => some (decide (x < y))
  | .leq => some (decide (x ≤ y))
  | .gtr => some (decide (x > y))
  | .geq => some (decide (x ≥ y))
  | _ => none

noncomputable def fcmp (op : BinOp) (k : FloatKind) (x y : Nat) : Option Bool :=
  match op with
  | .eql => some (feqB k x y)
  | .neq => some (!feqB k x y)
  | .lss => some (fltB k x y)
  | .leq => some (fleB k x y)
  | .gtr => some (fltB k y x)
  | .geq => some (fleB k y x)
  | _ => none

def isFop (op : BinOp) : Bool := match op with | .add | .sub | .mul | .quo => true | _ => false

def isBoolT (P : Program) (t : TypeId) : Bool := match kd P t with | some .bool => true | _ => false

def beqV (op : BinOp) (a b : Bool) : Option Bool := match op with | .eql => some (a == b) | .neq => some (a != b) | _ => none

/-- Where both are as they are told, so is the answer. -/
def evC (op : BinOp) (c d : Bool) (k : IntKind) (a b : Int) : Option AVal :=
  match arith op k a b with
  | some n => some (.cint (c && d) k n)
  | none => match icmp op a b with
    | some e => some (.cbool (c && d) e)
    | none => none

noncomputable def evBin0 (P : Program) (t : TypeId) (op : BinOp) (x y : AVal) : Option AVal :=
  match x, y with
  | .int k a, .int k' b => match decide (k = k') with
    | true => match arith op k a b with | some n => some (.int k n) | none => match icmp op a b with | some c => some (.bool c) | none => none
    | false => none
  | .sint k a, .int k' b => match decide (k = k') with
    | true => match arith op k a b with | some n => some (.sint k n) | none => match icmp op a b with | some c => some (.sbool c) | none => none
    | false => none
  | .int k a, .sint k' b => match decide (k = k') with
    | true => match arith op k a b with | some n => some (.sint k n) | none => match icmp op a b with | some c => some (.sbool c) | none => none
    | false => none
  | .sint k a, .sint k' b => match decide (k = k') with
    | true => match arith op k a b with | some n => some (.sint k n) | none => match icmp op a b with | some c => some (.sbool c) | none => none
    | false => none
  | .cint c k a, .int k' b => match decide (k = k') with
    | true => evC op c true k a b
    | false => none
  | .cint c k a, .sint k' b => match decide (k = k') with
    | true => evC op c true k a b
    | false => none
  | .int k a, .cint d k' b => match decide (k = k') with
    | true => evC op true d k a b
    | false => none
  | .sint k a, .cint d k' b => match decide (k = k') with
    | true => evC op true d k a b
    | false => none
  | .cint c k a, .cint d k' b => match decide (k = k') with
    | true => evC op c d k a b
    | false => none
  | .flt k a, .flt k' b => match decide (k = k') with
    | true => match isFop op with
      | true => some (.flt k (fop op k a b))
      | false => match fcmp op k a b with | some c => some (.sbool c) | none => none
    | false => none
  | .bool a, .bool b => match isBoolT P t with
    | true => match beqV op a b with | some c => some (.bool c) | none => none
    | false => none
  | .sbool a, .bool b => match isBoolT P t with
    | true => match beqV op a b with | some c => some (.sbool c) | none => none
    | false => none
  | .bool a, .sbool b => match isBoolT P t with
    | true => match beqV op a b with | some c => some (.sbool c) | none => none
    | false => none
  | .sbool a, .sbool b => match isBoolT P t with
    | true => match beqV op a b with | some c => some (.sbool c) | none => none
    | false => none
  | _, _ => none

def unlint : AVal → AVal
  | .lint k _ n => .sint k (Int.ofNat n)
  | v => v

/-- A number of which a lower bound is known, against one that is told. -/
def cmpLint (op : BinOp) : AVal → AVal → Option Bool
  | .lint k lo _, .int k' c => match decide (k = k') with
    | true => match op with
      | .gtr => match decide (c < Int.ofNat lo) with | true => some true | false => none
      | .geq => match decide (c ≤ Int.ofNat lo) with | true => some true | false => none
      | .lss => match decide (c ≤ Int.ofNat lo) with | true => some false | false => none
      | .leq => match decide (c < Int.ofNat lo) with | true => some false | false => none
      | .eql => match decide (c < Int.ofNat lo) with | true => some false | false => none
      | .neq => match decide (c < Int.ofNat lo) with | true => some true | false => none
      | _ => none
    | false => none
  | .int k' c, .lint k lo _ => match decide (k = k') with
    | true => match op with
      | .lss => match decide (c < Int.ofNat lo) with | true => some true | false => none
      | .leq => match decide (c ≤ Int.ofNat lo) with | true => some true | false => none
      | .gtr => match decide (c ≤ Int.ofNat lo) with | true => some false | false => none
      | .geq => match decide (c < Int.ofNat lo) with | true => some false | false => none
      | .eql => match decide (c < Int.ofNat lo) with | true => some false | false => none
      | .neq => match decide (c < Int.ofNat lo) with | true => some true | false => none
      | _ => none
    | false => none
  | _, _ => none

noncomputable def evBin (P : Program) (t : TypeId) (op : BinOp) (x y : AVal) : Option AVal :=
  match cmpLint op x y with
  | some b => some (.bool b)
  | none => evBin0 P t op (unlint x) (unlint y)

noncomputable def evUn (op : UnOp) (x : AVal) : Option AVal :=
  match op, x with
  | .not, .bool b => some (.bool !b)
  | .not, .sbool b => some (.sbool !b)
  | .not, .cbool c b => some (.cbool c !b)
  | .neg, .int k n => some (.int k (k.wrap (0 - n)))
  | .neg, .sint k n => some (.sint k (k.wrap (0 - n)))
  | .neg, .flt k b => some (.flt k (fneg k b))
  | _, _ => none

noncomputable def evConv0 (P : Program) (src dst : TypeId) (x : AVal) : Option AVal :=
  match kd P src with
  | none => none
  | some _ => match kd P dst, x with
  | some (.int k), .int _ n => some (.int k (k.wrap n))
  | some (.int k), .sint _ n => some (.sint k (k.wrap n))
  | some (.int k), .cint c _ n => some (.cint c k (k.wrap n))
  | some (.flt k), .int _ n => some (.flt k (ofInt k n))
  | some (.flt k), .sint _ n => some (.flt k (ofInt k n))
  | some (.flt .f64), .flt .f32 b => some (.flt .f64 (wide b))
  | some (.flt .f32), .flt .f32 b => some (.flt .f32 b)
  | some (.flt .f64), .flt .f64 b => some (.flt .f64 b)
  | _, _ => none

noncomputable def evConv (P : Program) (src dst : TypeId) (x : AVal) : Option AVal := evConv0 P src dst (unlint x)

def fieldOf (fs : List Field) (n : Nat) : Option Field := match fs, n with
  | [], _ => none
  | f :: _, 0 => some f
  | _ :: r, n + 1 => fieldOf r n

def natOf : Int → Option Nat
  | .ofNat n => some n
  | .negSucc _ => none

def cutL : List AVal → Nat → Nat → List AVal
  | l, o, n => (l.drop o).take n

/-- A part of an aggregate. -/
def partV (P : Program) (t : TypeId) (cs : List AVal) (o : Nat) : Option AVal :=
  match kd P t, tsize P t with
  | some k, some n => match k.isAgg with
    | true => match Nat.ble (o + n) cs.length with | true => some (.agg (cutL cs o n)) | false => none
    | false => match Nat.ble (o + 1) cs.length with | true => some (nth o cs) | false => none
  | _, _ => none

def idxOf (i : AVal) (len : Nat) : Option Nat :=
  match i with
  | .int _ n => match natOf n with
    | some m => match Nat.ble (m + 1) len with | true => some m | false => none
    | none => none
  | _ => none

def fillA (cells : List AVal) (o : Nat) : List AVal → List AVal
  | [] => cells
  | v :: r => fillA (cells.set o v) (o + 1) r

/-- The cells of a value that is sure to be one. -/
def cellsO : AVal → Option (List AVal)
  | .tuple _ => none
  | .bad => none
  | .raw v => match v.oneCell' with | true => some [.raw v] | false => none
  | .agg cs => some cs
  | v => some [v]

def plcs (P : Program) : List Field → Option (List (Nat × Nat))
  | [] => some []
  | f :: r => match tsize P f.type with
    | some n => match plcs P r with | some l => some ((f.offset, n) :: l) | none => none
    | none => none

def nthP (t : Nat) : List (Nat × Nat) → Option (Nat × Nat)
  | [] => none
  | v :: r => match t with | 0 => some v | t + 1 => nthP t r

def fillG (pl : Nat → Option (Nat × Nat)) (S : St) : List AVal → List (Nat × Operand) → Option (List AVal)
  | cells, [] => some cells
  | cells, (j, x) :: r => match pl j with
    | none => none
    | some (off, sz) => match cellsO (opd S x) with
      | some v => match Nat.beq v.length sz && Nat.ble (off + v.length) cells.length with
        | true => fillG pl S (fillA cells off v) r
        | false => none
      | none => none

def argsOf (S : St) : List Operand → List AVal
  | [] => []
  | x :: r => opd S x :: argsOf S r

noncomputable def minmax (mx : Bool) : List AVal → Option AVal
  | [.flt k a, .flt k' b] => match decide (k = k') with
    | true => match mx with
      | true => some (.flt k (fmax k a b))
      | false => some (.flt k (fmin k a b))
    | false => none
  | _ => none

/-! Rows. -/
def wF : AVal → Nat | .flt _ b => b | _ => 0
def wG : AVal → Int | .int _ n => n | .sint _ n => n | .lint _ _ n => Int.ofNat n | _ => 0
def wB : AVal → Bool | .bool b => b | .sbool b => b | _ => false

def fits : CK → AVal → Bool
  | .f32, .flt .f32 _ => true
  | .int t, .int k _ => decide (t = k)
  | .int t, .sint k _ => decide (t = k)
  | .int t, .lint k _ _ => decide (t = k)
  | .bool, .bool _ => true
  | .bool, .sbool _ => true
  | _, _ => false

def fitsL (sh : List CK) : Nat → List AVal → Bool
  | _, [] => true
  | o, v :: r => match nthC o sh with
    | some c => match fits c v with | true => fitsL sh (o + 1) r | false => false
    | none => false

def inSeg (k o l j q : Nat) : Bool := Nat.beq j k && (Nat.ble o q && Nat.ble (q + 1) (o + l))

/-- Cells of one element written. -/
def Vc.put (v : Vc) (k o : Nat) (cs : List AVal) : Vc :=
  ⟨v.sh, v.n, fun j q => cond (inSeg k o (lenL cs) j q) (wF (nth (q - o) cs)) (v.fd j q), fun j q => cond (inSeg k o (lenL cs) j q) (wG (nth (q - o) cs)) (v.gd j q),
   fun j q => cond (inSeg k o (lenL cs) j q) (wB (nth (q - o) cs)) (v.bd j q), v.wr⟩

def ckOf : AVal → Option CK
  | .flt .f32 _ => some .f32
  | .int k _ => some (.int k)
  | .bool _ => some .bool
  | _ => none

def shOf : List AVal → Option (List CK)
  | [] => some []
  | v :: r => match ckOf v, shOf r with
    | some c, some l => some (c :: l)
    | _, _ => none

/-- The shape of a type's elements, and what they are at the start. -/
def elemOf (P : Program) (e : TypeId) : Option (List CK × List AVal) :=
  match tzero P e, tsize P e with
  | some z, some n => match shOf (absC z.cells.toList) with
    | some sh => match Nat.beq (lenL sh) n && Nat.ble 1 n with
      | true => some (sh, absC z.cells.toList)
      | false => none
    | none => none
  | _, _ => none

def tbytes (P : Program) (t : TypeId) : Option Nat := match P.info? t with | some i => some i.bytes | none => none

/-- Elements that are all alike. -/
def Vc.all (sh : List CK) (n : Num) (z : List AVal) : Vc := ⟨sh, n, fun _ q => wF (nth q z), fun _ q => wG (nth q z), fun _ q => wB (nth q z), true⟩

def addNum : Num → Num → Num
  | .lit n, .lit m => .lit (Nat.add n m)
  | .ge lo n, .lit m => .ge (Nat.add lo m) (Nat.add n m)
  | .lit n, .ge lo m => .ge (Nat.add n lo) (Nat.add n m)
  | a, b => .sym (Nat.add a.val b.val)

/-- A length, and what it asks. -/
def numOf : AVal → Option (Num × Bool)
  | .int .i64 z => match natOf z with | some n => some (.lit n, true) | none => none
  | .lint .i64 lo n => some (.ge lo n, true)
  | .sint .i64 z => some (.sym z.toNat, decide (0 ≤ z))
  | _ => none

def lenA : Num → AVal
  | .lit n => .int .i64 (Int.ofNat n)
  | .ge lo n => .lint .i64 lo n
  | .sym n => .sint .i64 (Int.ofNat n)

def sameOpd : Operand → Operand → Bool
  | .tmp t, .tmp u => Nat.beq t u
  | .const (.int k n), .const (.int k' n') => decide (k = k') && decide (n = n')
  | _, _ => false

/-- One row behind the other. -/
def Vc.join (sh : List CK) (n : Num) (fa : Nat) (v : Option Vc) (m : Num) (fb : Nat) (u : Vc) : Vc :=
  ⟨sh, addNum n m,
   match v with | some v => fun j q => cond (Nat.ble (j + 1) n.val) (v.fd (fa + j) q) (u.fd (fb + (j - n.val)) q) | none => fun j q => u.fd (fb + (j - n.val)) q,
   match v with | some v => fun j q => cond (Nat.ble (j + 1) n.val) (v.gd (fa + j) q) (u.gd (fb + (j - n.val)) q) | none => fun j q => u.gd (fb + (j - n.val)) q,
   match v with | some v => fun j q => cond (Nat.ble (j + 1) n.val) (v.bd (fa + j) q) (u.bd (fb + (j - n.val)) q) | none => fun j q => u.bd (fb + (j - n.val)) q, true⟩

/-- A row off told cells. -/
def Vc.ofCells (sh : List CK) (l : Nat) (cs : List AVal) : Vc :=
  ⟨sh, .lit l, fun j q => wF (nth (Nat.add (Nat.mul j (lenL sh)) q) cs), fun j q => wG (nth (Nat.add (Nat.mul j (lenL sh)) q) cs), fun j q => wB (nth (Nat.add (Nat.mul j (lenL sh)) q) cs), false⟩

def Vc.none (sh : List CK) : Vc := ⟨sh, .lit 0, fun _ _ => 0, fun _ _ => 0, fun _ _ => false, false⟩

def eqCK : CK → CK → Bool
  | .f32, .f32 => true
  | .int k, .int k' => decide (k = k')
  | .bool, .bool => true
  | _, _ => false

def eqSh : List CK → List CK → Bool
  | [], [] => true
  | c :: r, d :: s => match eqCK c d with | true => eqSh r s | false => false
  | _, _ => false

/-- Cells of elements one behind the other fit the shape. -/
def fitsAll (sh : List CK) : Nat → List AVal → Bool
  | 0, cs => match cs with | [] => true | _ => false
  | n + 1, cs => fitsL sh 0 (cs.take (lenL sh)) && fitsAll sh n (cs.drop (lenL sh))

/-- The row that is appended: how many, where it begins, the row. -/
def srcOf (S : St) (sh : List CK) : AVal → Option (Num × Nat × Vc)
  | .raw v => match v with | .slice none 0 0 => some (.lit 0, 0, Vc.none sh) | _ => none
  | .vec i e a n => match S.vec i with
    | some v => match Nat.beq e (lenL sh) && eqSh sh v.sh with | true => some (n, a, v) | false => none
    | none => none
  | .slice i o l _ => match S.cellsAt i o (Nat.mul l (lenL sh)) with
    | some cs => match fitsAll sh l cs with | true => some (.lit l, 0, Vc.ofCells sh l cs) | false => none
    | none => none
  | _ => none

def needN (n m : Num) (bytes : Nat) : Bool := Nat.ble (Nat.mul (Nat.add n.val m.val) bytes) 140737488355328 && Nat.ble (Nat.add n.val m.val) 140737488355328

def evAppend (P : Program) (S : St) (ts : List TypeId) (x y : AVal) : Option Out :=
  match ts with
  | [t, tx] => match kd P t, kd P tx with
    | some (.slice e), some (.slice _) => match elemOf P e, tbytes P e with
      | some (sh, _), some by_ => match srcOf S sh y with
        | some (m, fb, u) => match x with
          | .raw v => match v with
            | .slice none 0 0 => some ⟨.vec S.hp.length (lenL sh) 0 m, [], [], [⟨[], false, some (Vc.join sh (.lit 0) 0 none m fb u)⟩],
                needN (.lit 0) m by_ && Nat.ble (Nat.add fb m.val) u.n.val, none⟩
            | _ => none
          | .vec i e' a n => match S.vec i with
            | some v => match v.wr && Nat.beq e' (lenL sh) && eqSh sh v.sh with
              | true => some ⟨.vec S.hp.length (lenL sh) 0 (addNum n m), [], [(i, Vc.none [])], [⟨[], false, some (Vc.join sh n a (some v) m fb u)⟩],
                  needN n m by_ && (Nat.ble (Nat.add fb m.val) u.n.val && Nat.ble (Nat.add a n.val) v.n.val), none⟩
              | false => none
            | none => none
          | _ => none
        | none => none
      | _, _ => none
    | _, _ => none
  | _ => none

noncomputable def evBuiltin (P : Program) (S : St) (b : Builtin) (ts : List TypeId) (args : List AVal) : Option Out :=
  match b, args with
  | .len, [.slice _ _ l _] => match ts with
    | t :: _ => match kd P t with | some (.slice _) => pureO (.int .i64 l) | _ => none
    | [] => none
  | .len, [.vec _ _ _ n] => match ts with
    | t :: _ => match kd P t with | some (.slice _) => pureO (lenA n) | _ => none
    | [] => none
  | .len, [.raw v] => match ts, v with
    | t :: _, .slice none n _ => match kd P t with | some (.slice _) => pureO (.int .i64 n) | _ => none
    | _, _ => none
  | .len, [.agg _] => match ts with
    | t :: _ => match kd P t with | some (.arr n _) => pureO (.int .i64 n) | _ => none
    | [] => none
  | .append, [x, y] => evAppend P S ts x y
  | .min, args => match minmax false args with | some v => pureO v | none => none
  | .max, args => match minmax true args with | some v => pureO v | none => none
  | _, _ => none

noncomputable def evCall (Γ : List (Nat × Ctr)) (S : St) (f : FuncId) (args : List AVal) : Option Out :=
  match lookC f Γ with
  | some c => match c.x with
   | some k => match evExt k args with | some v => pureO v | none => none
   | none => c.fn args S
  | none => none

/-- An index off a value: the element, and what it asks. -/
def idxV (i : AVal) (n : Num) : Option (Nat × Bool) :=
  match i with
  | .int _ z => match natOf z with | some m => some (m, Nat.ble (m + 1) n.val) | none => none
  | .sint _ z => some (z.toNat, decide (0 ≤ z) && Nat.ble (z.toNat + 1) n.val)
  | .lint _ _ m => some (m, Nat.ble (m + 1) n.val)
  | _ => none

/-- A bound of a slice expression. -/
def bndV (S : St) (x : Option Operand) (dflt : Num) : Option (Num × Bool) :=
  match x with
  | none => some (dflt, true)
  | some a => match opd S a with
    | .int _ z => match natOf z with | some m => some (.lit m, true) | none => none
    | .sint _ z => some (.sym z.toNat, decide (0 ≤ z))
    | .lint _ lo m => some (.ge lo m, true)
    | _ => none

def subNum : Num → Num → Num
  | .lit n, .lit m => .lit (Nat.sub n m)
  | .ge lo n, .lit m => .ge (Nat.sub lo m) (Nat.sub n m)
  | a, b => .sym (Nat.sub a.val b.val)

noncomputable def evOp (P : Program) (Γ : List (Nat × Ctr)) (S : St) (op : Op) : Option Out :=
  match op with
  | .move x => pureO (opd S x)
  | .assign x => pureO (opd S x)
  | .pick c a b => match opd S c with
    | .bool true => pureO (opd S a)
    | .bool false => pureO (opd S b)
    | .sbool c => pureO (mergeV c (opd S a) (opd S b))
    | _ => none
  | .alloc t => match tzero P t with
    | some z => some ⟨.ptr S.hp.length 0, [], [], [⟨absC z.cells.toList, true, none⟩], true, none⟩
    | none => none
  | .box _ x => match cellsO (opd S x) with
    | some cs => some ⟨.ptr S.hp.length 0, [], [], [⟨cs, true, none⟩], true, none⟩
    | none => none
  | .build t parts => match tzero P t, kd P t with
    | some z, some (.struct fs) => match plcs P fs with
      | some pl => match fillG (fun j => nthP j pl) S (absC z.cells.toList) parts.toList with
        | some cs => pureO (.agg cs)
        | none => none
      | none => none
    | some z, some (.arr _ e) => match tsize P e with
      | some sz => match fillG (fun j => some (j * sz, sz)) S (absC z.cells.toList) parts.toList with
        | some cs => pureO (.agg cs)
        | none => none
      | none => none
    | _, _ => none
  | .load t a => match opd S a with
    | .ptr i o => match kd P t, tsize P t with
      | some k, some n => match k.isAgg with
        | true => match S.cellsAt i o n with | some cs => pureO (.agg cs) | none => none
        | false => match S.cell i o with | some v => pureO v | none => none
      | _, _ => none
    | .vptr i e k o => match kd P t, tsize P t, S.vec i with
      | some d, some n, some v => match Nat.beq e (lenL v.sh) with
        | true => match d.isAgg with
          | true => match v.cellsAt k o n with | some cs => needO (Nat.ble (k + 1) v.n.val) (.agg cs) | none => none
          | false => match v.cellsAt k o 1 with | some [x] => needO (Nat.ble (k + 1) v.n.val) x | _ => none
        | false => none
      | _, _, _ => none
    | _ => none
  | .store t a x => match opd S a with
    | .ptr i o => match tsize P t, cellsO (opd S x) with
      | some n, some cs => match Nat.beq cs.length n && (S.blk i).wr && Nat.ble (o + n) (S.blk i).cells.length && allOne cs with
        | true => some ⟨.raw undef, storeL i o cs, [], [], true, none⟩
        | false => none
      | _, _ => none
    | .vptr i e k o => match tsize P t, cellsO (opd S x), S.vec i with
      | some n, some cs, some v => match v.wr && (Nat.beq cs.length n && (Nat.beq e (lenL v.sh) && fitsL v.sh o cs)) with
        | true => some ⟨.raw undef, [], [(i, v.put k o cs)], [], Nat.ble (k + 1) v.n.val, none⟩
        | false => none
      | _, _, _ => none
    | _ => none
  | .nilCheck x => match opd S x with
    | .ptr i o => pureO (.ptr i o)
    | .vptr i e k o => pureO (.vptr i e k o)
    | .fn (.func f) xs ys => pureO (.fn (.func f) xs ys)
    | _ => none
  | .binOp op t x y _ => match evBin P t op (opd S x) (opd S y) with | some v => pureO v | none => none
  | .unOp op _ x => match evUn op (opd S x) with | some v => pureO v | none => none
  | .convert src dst x => match evConv P src dst (opd S x) with | some v => pureO v | none => none
  | .fieldAddr s x f => match opd S x, kd P s with
    | .ptr i o, some (.struct fs) => match fieldOf fs f with
      | some fd => match tsize P fd.type with
        | some 0 => none
        | some _ => pureO (.ptr i (Nat.add o fd.offset))
        | none => none
      | none => none
    | .vptr i e k o, some (.struct fs) => match fieldOf fs f with
      | some fd => match tsize P fd.type with
        | some 0 => none
        | some _ => pureO (.vptr i e k (Nat.add o fd.offset))
        | none => none
      | none => none
    | _, _ => none
  | .field t x f => match opd S x, kd P t with
    | .agg cs, some (.struct fs) => match fieldOf fs f with
      | some fd => match partV P fd.type cs fd.offset with | some v => pureO v | none => none
      | none => none
    | _, _ => none
  | .indexAddr t x ix => match opd S x, kd P t with
    | .ptr i o, some (.arr n e) => match idxOf (opd S ix) n, tsize P e with
      | some m, some sz => pureO (.ptr i (Nat.add o (Nat.mul m sz)))
      | _, _ => none
    | .vptr i el k o, some (.arr n e) => match idxOf (opd S ix) n, tsize P e with
      | some m, some sz => pureO (.vptr i el k (Nat.add o (Nat.mul m sz)))
      | _, _ => none
    | .vec i el a n, some (.slice e) => match idxV (opd S ix) n, tsize P e with
      | some (m, c), some sz => match Nat.beq sz el with | true => needO c (.vptr i el (Nat.add a m) 0) | false => none
      | _, _ => none
    | .slice i o l _, some (.slice e) => match idxOf (opd S ix) l, tsize P e with
      | some m, some sz => pureO (.ptr i (Nat.add o (Nat.mul m sz)))
      | _, _ => none
    | _, _ => none
  | .index t x ix => match opd S x, kd P t with
    | .agg cs, some (.arr n e) => match idxOf (opd S ix) n, tsize P e with
      | some m, some sz => match partV P e cs (Nat.mul m sz) with | some v => pureO v | none => none
      | _, _ => none
    | _, _ => none
  | .slice t x lo hi mx => match opd S x, kd P t, mx with
    | .ptr i o, some (.arr n e), none =>
      match (match lo with | none => some 0 | some a => idxOf (opd S a) (n + 1)), (match hi with | none => some n | some a => idxOf (opd S a) (n + 1)), tsize P e with
      | some l, some h, some sz => match Nat.ble l h && Nat.ble (l + 1) n with
        | true => pureO (.slice i (Nat.add o (Nat.mul l sz)) (Nat.sub h l) (Nat.sub n l))
        | false => none
      | _, _, _ => none
    | .vec i el a n, some (.slice e), none => match bndV S lo (.lit 0), bndV S hi n, tsize P e with
      | some (l, c), some (h, d), some sz => match Nat.beq sz el with
        | true => needO (c && (d && (Nat.ble l.val h.val && Nat.ble h.val n.val))) (.vec i el (Nat.add a l.val) (subNum h l))
        | false => none
      | _, _, _ => none
    | _, _, _ => none
  | .makeInterface t x => match kd P t with
    | some .other => none
    | some _ => match opd S x with | .tuple _ => none | .bad => none | v => pureO (.ifc t v)
    | none => none
  | .makeFunc f xs ys => match f with
    | .func g => pureO (.fn (.func g) (argsOf S xs.toList) (argsOf S ys.toList))
    | _ => none
  | .makeSlice t len cap => match kd P t, numOf (opd S len) with
    | some (.slice e), some (n, c) => match elemOf P e, tbytes P e with
      | some (sh, z), some by_ => match sameOpd len cap with
        | true => some ⟨.vec S.hp.length (lenL sh) 0 n, [], [], [⟨[], false, some (Vc.all sh n z)⟩], c && needN n (.lit 0) by_, none⟩
        | false => none
      | _, _ => none
    | _, _ => none
  | .panic x => match opd S x with
    | .ifc t v => some ⟨.raw undef, [], [], [], true, some (true, .ifc t v)⟩
    | _ => none
  | .extract t ix => match opd S t with
    | .tuple vs => match Nat.ble (ix + 1) vs.length with | true => pureO (nth ix vs) | false => none
    | _ => none
  | .call c => match c.callee with
    | .builtin b => evBuiltin P S b c.argTypes.toList (argsOf S c.args.toList)
    | .value f => match opd S f with
      | .fn (.func g) xs ys => evCall Γ S g (xs ++ argsOf S c.args.toList ++ ys)
      | _ => none
    | _ => none
  | _ => none


/-! Trees of ways. -/
inductive Ex where
  | normal
  | exit (id : Nat)
  | ret
  | panic (v : AVal)

/-- Two ways that may be made one. -/
def Ex.same : Ex → Ex → Bool
  | .normal, .normal => true
  | .exit i, .exit j => Nat.beq i j
  | _, _ => false

inductive Tr where
  | leaf (e : Ex) (d : Dl)
  | node (d : Dl) (b : Bool) (l r : Tr)

/-- What a tree asks. -/
def Tr.need : Tr → Bool
  | .leaf _ d => d.nd
  | .node d b l r => cond d.nd (cond b l.need r.need) false

def memN (t : Nat) : List Nat → Bool
  | [] => false
  | k :: r => match Nat.beq t k with | true => true | false => memN t r

def keysO : List (Nat × AVal) → List Nat → List Nat
  | [], acc => acc
  | (k, _) :: r, acc => match memN k acc with | true => keysO r acc | false => keysO r (k :: acc)

def memP (i o : Nat) : List (Nat × Nat) → Bool
  | [] => false
  | k :: r => match Nat.beq i k.1 && Nat.beq o k.2 with | true => true | false => memP i o r

def keysH : List ((Nat × Nat) × AVal) → List (Nat × Nat) → List (Nat × Nat)
  | [], acc => acc
  | (k, _) :: r, acc => match memP k.1 k.2 acc with | true => keysH r acc | false => keysH r (k :: acc)

def keysV : List (Nat × Vc) → List Nat → List Nat
  | [], acc => acc
  | (k, _) :: r, acc => match memN k acc with | true => keysV r acc | false => keysV r (k :: acc)

def mergeOv (b : Bool) (S1 S2 : St) : List Nat → List (Nat × AVal)
  | [] => []
  | t :: r => (t, mergeV b (S1.get t) (S2.get t)) :: mergeOv b S1 S2 r

def cellD (S : St) (k : Nat × Nat) : AVal := match S.cell k.1 k.2 with | some v => v | none => .bad

def mergeHv (b : Bool) (n : Nat) (S1 S2 : St) : List (Nat × Nat) → List ((Nat × Nat) × AVal)
  | [] => []
  | k :: r => match Nat.ble (k.1 + 1) n with
    | true => (k, mergeV b (cellD S1 k) (cellD S2 k)) :: mergeHv b n S1 S2 r
    | false => mergeHv b n S1 S2 r

def ndc (b : Bool) : Bool → Bool → Bool
  | true, true => true
  | true, false => b
  | false, true => !b
  | false, false => false
theorem ndc_eq (b l r : Bool) : ndc b l r = cond b l r := by cases b <;> cases l <;> cases r <;> rfl

def mergeNum (b : Bool) : Num → Num → Num
  | .lit n, .lit m => match Nat.beq n m with | true => .lit n | false => .sym (cond b n m)
  | .ge lo n, .ge lo' m => match Nat.beq lo lo' with | true => .ge lo (cond b n m) | false => .sym (cond b n m)
  | n, m => .sym (cond b n.val m.val)

/-- Two rows become one. -/
def mergeVc (b : Bool) (v u : Vc) : Vc :=
  match v.sh, u.sh with
  | [], _ => Vc.none []
  | _ :: _, [] => Vc.none []
  | c :: sh, d :: sh' => match eqSh (c :: sh) (d :: sh') with
    | true => ⟨c :: sh, mergeNum b v.n u.n, fun k o => cond b (v.fd k o) (u.fd k o), fun k o => cond b (v.gd k o) (u.gd k o), fun k o => cond b (v.bd k o) (u.bd k o), v.wr && u.wr⟩
    | false => Vc.none []

/-- Two rows become one; one without a shape has no element. -/
def mergeVr (b : Bool) (v u : Vc) : Vc :=
  match v.sh, u.sh with
  | [], [] => Vc.none []
  | [], c :: sh => ⟨c :: sh, mergeNum b (.lit 0) u.n, u.fd, u.gd, u.bd, u.wr⟩
  | c :: sh, [] => ⟨c :: sh, mergeNum b v.n (.lit 0), v.fd, v.gd, v.bd, v.wr⟩
  | c :: sh, d :: sh' => match eqSh (c :: sh) (d :: sh') with
    | true => ⟨c :: sh, mergeNum b v.n u.n, fun k o => cond b (v.fd k o) (u.fd k o), fun k o => cond b (v.gd k o) (u.gd k o), fun k o => cond b (v.bd k o) (u.bd k o), v.wr && u.wr⟩
    | false => Vc.none []

def vecD (S : St) (i : Nat) : Vc := match S.vec i with | some v => v | none => Vc.none []

def mergeVv (b : Bool) (n : Nat) (S1 S2 : St) : List Nat → List (Nat × Vc)
  | [] => []
  | i :: r => match Nat.ble (i + 1) n with
    | true => (i, mergeVc b (vecD S1 i) (vecD S2 i)) :: mergeVv b n S1 S2 r
    | false => mergeVv b n S1 S2 r

def deadB : Nat → List Blk
  | 0 => []
  | n + 1 => ⟨[], false, none⟩ :: deadB n

/-- One way on, where both ways of a branch have come to the same place. -/
def mergeD (b : Bool) (S : St) (d1 d2 : Dl) : Dl :=
  ⟨mergeOv b (S.ext d1) (S.ext d2) (keysO d2.ov (keysO d1.ov [])),
   mergeHv b S.hp.length (S.ext d1) (S.ext d2) (keysH d2.hv (keysH d1.hv [])),
   mergeVv b S.hp.length (S.ext d1) (S.ext d2) (keysV d2.vv (keysV d1.vv [])),
   deadB (Nat.add d1.nw.length d2.nw.length), [], ndc b d1.nd d2.nd⟩

def Dl.comp (d dm : Dl) : Dl := ⟨dm.ov ++ d.ov, dm.hv ++ d.hv, dm.vv ++ d.vv, d.nw ++ dm.nw, dm.df ++ d.df, cond d.nd dm.nd false⟩

def noDf : Dl → Bool := fun d => match d.df with | [] => true | _ => false

/-- A delta ahead of a tree. -/
def preT (d : Dl) : Tr → Tr
  | .leaf e dx => .leaf e (d.comp dx)
  | .node dx b l r => .node (d.comp dx) b l r

/-- No way leads on. -/
def hardT : Tr → Bool
  | .leaf e _ => match e with | .normal => false | _ => true
  | .node _ _ l r => match hardT l with | true => hardT r | false => false

/-- A tree of which one way leads on: the delta ahead, when it does not, what then, and the way on. -/
def splitT : Tr → Option (Dl × Bool × Tr × Dl)
  | .leaf _ _ => none
  | .node d b l r => match l, r with
    | l, .leaf .normal dn => match hardT l with | true => some (d, b, l, dn) | false => none
    | .leaf .normal dn, r => match hardT r with | true => some (d, !b, r, dn) | false => none
    | _, _ => none

/-- Two ways on become one, and the ways that lead out come first. -/
def mkNode2 (S : St) (d : Dl) (b : Bool) (l r : Tr) : Tr :=
  match l, splitT r with
  | .leaf .normal d1, some (dr, br, Xr, n2) => match noDf d1 && noDf (dr.comp n2) with
    | true => .node d (cond b false br) (preT dr Xr) (.leaf .normal (mergeD b (S.ext d) d1 (dr.comp n2)))
    | false => .node d b l r
  | _, some (dr, br, Xr, n2) => match splitT l with
    | some (dl, bl, Xl, n1) => match noDf (dl.comp n1) && noDf (dr.comp n2) with
      | true => .node d (cond b bl br) (.node Dl.nil b (preT dl Xl) (preT dr Xr)) (.leaf .normal (mergeD b (S.ext d) (dl.comp n1) (dr.comp n2)))
      | false => .node d b l r
    | none => .node d b l r
  | _, none => match r, splitT l with
    | .leaf .normal d2, some (dl, bl, Xl, n1) => match noDf (dl.comp n1) && noDf d2 with
      | true => .node d (cond b bl false) (preT dl Xl) (.leaf .normal (mergeD b (S.ext d) (dl.comp n1) d2))
      | false => .node d b l r
    | _, _ => .node d b l r

def mkNode (S : St) (d : Dl) (b : Bool) (l r : Tr) : Tr :=
  match l, r with
  | .leaf e1 d1, .leaf e2 d2 => match Ex.same e1 e2 && (noDf d1 && noDf d2) with
    | true => .leaf e1 (d.comp (mergeD b (S.ext d) d1 d2))
    | false => .node d b l r
  | _, _ => mkNode2 S d b l r

/-- Nothing is known of what comes: it must not come to it. -/
def stuckT : Tr := .leaf .ret ⟨[], [], [], [], [], false⟩

def orStuck : Option Tr → Tr
  | some t => t
  | none => stuckT

/-- Go on from each normal leaf. -/
def bindT (S : St) (t : Tr) (f : St → Dl → Option Tr) : Option Tr :=
  match t with
  | .leaf e d => match e with
    | .normal => f S d
    | e => some (.leaf e d)
  | .node d b l r => some (mkNode S d b (orStuck (bindT (S.ext d) l f)) (orStuck (bindT (S.ext d) r f)))

/-- A block's end: its own exit is the way on. -/
def unblock (id : Nat) (S : St) : Tr → Tr
  | .leaf e d => match e with
    | .exit j => match Nat.beq id j with | true => .leaf .normal d | false => .leaf e d
    | e => .leaf e d
  | .node d b l r => mkNode S d b (unblock id (S.ext d) l) (unblock id (S.ext d) r)

def Dl.put (d : Dl) (dst : Option Nat) (v : AVal) (hv : List ((Nat × Nat) × AVal)) (vv : List (Nat × Vc)) (nw : List Blk) (nd : Bool) : Dl :=
  ⟨match dst with | some t => (t, v) :: d.ov | none => d.ov, hv ++ d.hv, vv ++ d.vv, d.nw ++ nw, d.df, cond d.nd nd false⟩

def slotOf (ops : List Oper) : Nat → Option Nat
  | 0 => match ops with | o :: _ => o.dst | [] => none
  | n + 1 => match ops with | _ :: r => slotOf r n | [] => none

inductive Gd where
  | yes | no | split (t : Nat) (b : Bool) | stuck

/-- What a guard says. -/
def guardOf (ops : List Oper) (S : St) (g : Option (Nat × Bool)) : Gd :=
  match g with
  | none => .yes
  | some (j, want) => match slotOf ops j with
    | none => .no
    | some t => match S.get t with
      | .bool b => match b == want with | true => .yes | false => .no
      | .sbool b => .split t b
      | .raw (.tuple _) => .no
      | _ => .stuck

/-- The slot is one of the frame's. -/
def okDst (N : Nat) : Option Nat → Bool
  | none => true
  | some t => Nat.ble (t + 1) N

/-- Nothing is written, nothing is made. -/
def Out.quiet (o : Out) : Bool := match o.hv, o.vv, o.nw, o.pn with | [], [], [], none => true | _, _, _, _ => false

/-- A call that is put off. -/
def dferOf (S : St) : Op → Option (AVal × List AVal)
  | .defer c => match c.callee with
    | .value f => match opd S f with
      | .fn (.func g) [] ys => match c.args.toList with
        | [] => some (.fn (.func g) [] ys, [])
        | _ => none
      | _ => none
    | _ => none
  | _ => none

def isDefer : Op → Bool
  | .defer _ => true
  | _ => false

noncomputable def evOps (P : Program) (Γ : List (Nat × Ctr)) (N : Nat) (q : Bool) (all : List Oper) : Nat → List Oper → St → Dl → Option Tr
  | 0, _, _, _ => none
  | _ + 1, [], _, d => some (.leaf .normal d)
  | n + 1, o :: rest, S, d =>
    match okDst N o.dst with
    | false => none
    | true =>
      match guardOf all (S.ext d) o.guard with
      | .yes => match isDefer o.op with
        | true => match q, o.guard, dferOf (S.ext d) o.op with
          | false, none, some f => evOps P Γ N q all n rest S ⟨match o.dst with | some t => (t, .raw undef) :: d.ov | none => d.ov, d.hv, d.vv, d.nw, f :: d.df, d.nd⟩
          | _, _, _ => none
        | false => match evOp P Γ (S.ext d) o.op with
          | some out => match !q || out.quiet with
            | true => match out.pn with
              | none => evOps P Γ N q all n rest S (d.put o.dst out.v out.hv out.vv out.nw out.nd)
              | some (b, v) => match evOps P Γ N q all n rest (S.ext d) (Dl.nil.put o.dst out.v out.hv out.vv out.nw out.nd) with
                | some r => some (.node d b (.leaf (.panic v) ⟨[], [], [], [], [], out.nd⟩) r)
                | none => some (.node d b (.leaf (.panic v) ⟨[], [], [], [], [], out.nd⟩) stuckT)
            | false => none
          | none => none
      | .no => evOps P Γ N q all n rest S (d.put o.dst (.raw undef) [] [] [] true)
      | .split t b => some (mkNode S d b (orStuck (evOps P Γ N q all n (o :: rest) (S.ext d) (Dl.one t (.bool true)))) (orStuck (evOps P Γ N q all n (o :: rest) (S.ext d) (Dl.one t (.bool false)))))
      | .stuck => none

/-! Whether a region that draws its order may be read in the text's order. -/
def tmpsOf : List Operand → List Nat
  | [] => []
  | .tmp t :: r => t :: tmpsOf r
  | _ :: r => tmpsOf r

/-- The slots that an operation looks at. -/
def looks (all : List Oper) (o : Oper) : List Nat :=
  (match o.guard with | some (j, _) => (match slotOf all j with | some t => [t] | none => []) | none => []) ++ tmpsOf o.op.operands.toList

/-- What surely comes ahead of each operation, the first ones first. -/
def ancs : List Oper → List (List Nat) → List (List Nat)
  | [], acc => acc
  | o :: r, acc => ancs r (acc ++ [(o.after.toList.filter (fun e => Region.binds .any e)).foldl (fun l e => e.on :: ((acc[e.on]?).getD [] ++ l)) []])

def memT (t : Option Nat) (l : List Nat) : Bool := match t with | some t => memN t l | none => false

def sameT (t u : Option Nat) : Bool := match t, u with | some t, some u => Nat.beq t u | _, _ => false

/-- 'o' (the i-th) against the later ones. -/
def drawRow (all : List Oper) (anc : List (List Nat)) (o : Oper) (i : Nat) : List Oper → Nat → Bool
  | [], _ => true
  | u :: r, j =>
    (!sameT o.dst u.dst) &&
    ((!(memT o.dst (looks all u) || memT u.dst (looks all o))) || memN i ((anc[j]?).getD [])) &&
    drawRow all anc o i r (j + 1)

def drawRows (all : List Oper) (anc : List (List Nat)) : List Oper → Nat → Bool
  | [], _ => true
  | o :: r, i => drawRow all anc o i r (i + 1) && (o.after.toList.all fun e => !Region.binds .any e || Nat.ble (e.on + 1) i) && drawRows all anc r (i + 1)

def drawOk (all : List Oper) : Bool := drawRows all (ancs all []) all 0

/-- What has been written is no longer known. -/
def killHv : List ((Nat × Nat) × AVal) → List Nat → List Nat
  | [], acc => acc
  | (k, _) :: r, acc => killHv r (k.1 :: acc)
def killVv : List (Nat × Vc) → List Nat → List Nat
  | [], acc => acc
  | (k, _) :: r, acc => killVv r (k :: acc)

def guardV (n : Nat) (x : AVal) : AVal := match x.under n with | true => x | false => .bad

def guardL (n : Nat) : List AVal → List AVal
  | [] => []
  | x :: r => guardV n x :: guardL n r

def guardH (n : Nat) : List ((Nat × Nat) × AVal) → List ((Nat × Nat) × AVal)
  | [] => []
  | (k, x) :: r => (k, guardV n x) :: guardH n r
def guardHs (n : Nat) : List (List ((Nat × Nat) × AVal)) → List (List ((Nat × Nat) × AVal))
  | [] => []
  | l :: r => guardH n l :: guardHs n r

def guardO (n : Nat) : List (Nat × AVal) → List (Nat × AVal)
  | [] => []
  | (k, x) :: r => (k, guardV n x) :: guardO n r
def guardOs (n : Nat) : List (List (Nat × AVal)) → List (List (Nat × AVal))
  | [] => []
  | l :: r => guardO n l :: guardOs n r

def dropB (n : Nat) (ks : List Nat) : Nat → List Blk → List Blk
  | _, [] => []
  | i, b :: r => (match memN i ks with
    | true => ⟨[], false, none⟩
    | false => ⟨guardL n b.cells, false, match b.vc with | some v => some ⟨v.sh, v.n, v.fd, v.gd, v.bd, false⟩ | none => none⟩) :: dropB n ks (i + 1) r

def roV : List (Nat × Vc) → List (Nat × Vc)
  | [] => []
  | (i, v) :: r => (i, ⟨v.sh, v.n, v.fd, v.gd, v.bd, false⟩) :: roV r
def roVs : List (List (Nat × Vc)) → List (List (Nat × Vc))
  | [] => []
  | l :: r => roV l :: roVs r

/-- The slots of a state, over the memory of another one, of which some blocks are no longer known, and which may not be written. -/
def St.over (S H : St) (ks : List Nat) : St := ⟨guardL H.hp.length S.fr, guardOs H.hp.length S.ovs, dropB H.hp.length ks 0 H.hp, guardHs H.hp.length H.hvs, roVs H.vvs, S.dfs⟩

def Out.calm (o : Out) : Bool := match o.hv, o.vv, o.nw with | [], [], [] => true | _, _, _ => false

/-- What the loud one writes is among the blocks told. -/
def killsOk (ks : List Nat) (out : Out) : Bool := (out.hv.all fun e => memN e.1.1 ks) && (out.vv.all fun e => memN e.1 ks)

/-- The operations of a region that draws its order, one by one: the 'li'-th may write and make. 'H': the memory ahead of it. -/
noncomputable def evDr (P : Program) (Γ : List (Nat × Ctr)) (N : Nat) (all : List Oper) (anc : List (List Nat)) (li : Nat) (ks : List Nat) (H : St) : Nat → Nat → List Oper → St → Dl → Option Tr
  | 0, _, _, _, _ => none
  | _ + 1, _, [], _, d => some (.leaf .normal d)
  | n + 1, i, o :: rest, S, d =>
    match okDst N o.dst && !isDefer o.op with
    | false => none
    | true => match guardOf all (S.ext d) o.guard with
      | .stuck => none
      | .no => evDr P Γ N all anc li ks H n (i + 1) rest S (d.put o.dst (.raw undef) [] [] [] true)
      | .split t b => some (mkNode S d b (orStuck (evDr P Γ N all anc li ks H n i (o :: rest) (S.ext d) (Dl.one t (.bool true)))) (orStuck (evDr P Γ N all anc li ks H n i (o :: rest) (S.ext d) (Dl.one t (.bool false)))))
      | .yes => match Nat.beq i li with
          | true => match evOp P Γ (S.ext d) o.op with
            | some out => match out.pn, killsOk ks out with
              | none, true => evDr P Γ N all anc li ks H n (i + 1) rest S (d.put o.dst out.v out.hv out.vv out.nw out.nd)
              | _, _ => none
            | none => none
          | false => match memN li ((anc[i]?).getD []) || memN i ((anc[li]?).getD []) with
            | true => match evOp P Γ (S.ext d) o.op with
              | some out => match out.quiet with
                | true => evDr P Γ N all anc li ks H n (i + 1) rest S (d.put o.dst out.v [] [] [] out.nd)
                | false => none
              | none => none
            | false => match evOp P Γ ((S.ext d).over H ks) o.op with
              | some out => match out.quiet && out.v.under H.hp.length with
                | true => evDr P Γ N all anc li ks H n (i + 1) rest S (d.put o.dst out.v [] [] [] out.nd)
                | false => none
              | none => none

/-- The operation that is loud when all are read in the text's order, and the blocks that it writes. -/
noncomputable def loudOf (P : Program) (Γ : List (Nat × Ctr)) (N : Nat) (all : List Oper) : Nat → List Oper → St → Dl → Nat × List Nat
  | i, [], _, _ => (i, [])
  | i, o :: rest, S, d =>
    match guardOf all (S.ext d) o.guard with
    | .no => loudOf P Γ N all (i + 1) rest S (d.put o.dst (.raw undef) [] [] [] true)
    | _ => match evOp P Γ (S.ext d) o.op with
      | some out => match out.calm with
        | true => loudOf P Γ N all (i + 1) rest S (d.put o.dst out.v [] [] [] out.nd)
        | false => (i, killVv out.vv (killHv out.hv []))
      | none => (i, [])

/-- A region that draws its order. -/
noncomputable def evDraw (P : Program) (Γ : List (Nat × Ctr)) (N : Nat) (ops : List Oper) (S : St) (d : Dl) : Option Tr :=
  match drawOk ops with
  | true => match loudOf P Γ N ops 0 ops S d with
    | (li, ks) => evDr P Γ N ops (ancs ops []) li ks (S.ext d) 300 0 ops S d
  | false => none

def tmpOf : Operand → Option Nat
  | .tmp t => some t
  | _ => none

noncomputable def ev (P : Program) (Γ : List (Nat × Ctr)) (N : Nat) : Nat → Code → St → Dl → Option Tr
  | 0, _, _, _ => none
  | n + 1, c, S, d =>
    match c with
    | .skip => some (.leaf .normal d)
    | .label _ => some (.leaf .normal d)
    | .ret => some (.leaf .ret d)
    | .exit id => some (.leaf (.exit id) d)
    | .seq a b => match ev P Γ N n a S d with
      | some t => bindT S t (fun S d => ev P Γ N n b S d)
      | none => none
    | .cond c a b => match opd (S.ext d) c with
      | .bool true => ev P Γ N n a S d
      | .bool false => ev P Γ N n b S d
      | .sbool x => match tmpOf c with
        | some t => some (mkNode S d x (orStuck (ev P Γ N n a (S.ext d) (Dl.one t (.bool true)))) (orStuck (ev P Γ N n b (S.ext d) (Dl.one t (.bool false)))))
        | none => none
      | _ => none
    | .block id a => match ev P Γ N n a S d with
      | some t => some (unblock id S t)
      | none => none
    | .loop a => match ev P Γ N n a S d with
      | some t => bindT S t (fun S d => ev P Γ N n (.loop a) S d)
      | none => none
    | .region _ ops draw => match draw with
      | false => evOps P Γ N false ops.toList 300 ops.toList S d
      | true => evDraw P Γ N ops.toList S d
    | _ => none

def getRes (P : Program) (S : St) : List ResultVar → Option (List AVal)
  | [] => some []
  | .tmp t :: r => match getRes P S r with | some vs => some (S.get t :: vs) | none => none
  | .cell a t :: r => match S.get a with
    | .ptr i o => match kd P t, tsize P t, getRes P S r with
      | some k, some n, some vs => match k.isAgg with
        | true => match S.cellsAt i o n with | some cs => some (.agg cs :: vs) | none => none
        | false => match S.cell i o with | some v => some (v :: vs) | none => none
      | _, _, _ => none
    | _ => none

def one : List AVal → AVal
  | [v] => v
  | vs => .tuple vs

/-! The end of a call: what was made in it and is not handed back is forgotten. -/
structure Nm where
  us : List Nat
  vs : List Vc
  nd : Bool

/-- The row from one of its elements on. -/
def shiftV (v : Vc) (a : Nat) (n : Num) : Vc := ⟨v.sh, n, fun k o => v.fd (Nat.add a k) o, fun k o => v.gd (Nat.add a k) o, fun k o => v.bd (Nat.add a k) o, v.wr⟩

/-- The value of a result, its new rows numbered as they are met. 'us': the blocks that have been met. -/
def normV (base : Nat) (S : St) : AVal → Nm → Option (AVal × Nm)
  | .vec i e a n, m => match Nat.ble (i + 1) base with
    | true => some (.vec i e a n, m)
    | false => match S.vec i with
      | some v => match memN i m.us || !(Nat.beq e (lenL v.sh) && Nat.ble 1 e) with
        | true => none
        | false => some (.vec (Nat.add base (lenL m.vs)) e 0 n, ⟨i :: m.us, m.vs ++ [shiftV v a n], cond m.nd (Nat.ble (Nat.add a n.val) v.n.val) false⟩)
      | none => none
  | .raw v, m => match v with
    | .slice none 0 0 => some (.vec (Nat.add base (lenL m.vs)) 0 0 (.lit 0), ⟨m.us, m.vs ++ [Vc.none []], m.nd⟩)
    | v => some (.raw v, m)
  | .agg cs, m => match normL base S cs m with
    | some (cs, m) => some (.agg cs, m)
    | none => none
  | .tuple cs, m => match normL base S cs m with
    | some (cs, m) => some (.tuple cs, m)
    | none => none
  | x, m => match x.under base with | true => some (x, m) | false => none
where normL (base : Nat) (S : St) : List AVal → Nm → Option (List AVal × Nm)
  | [], m => some ([], m)
  | c :: r, m => match normV base S c m with
    | some (c, m) => match normL base S r m with
      | some (r, m) => some (c :: r, m)
      | none => none
    | none => none

/-- Writes to what was there, of what was there. -/
def oldHv (base : Nat) : List ((Nat × Nat) × AVal) → Option (List ((Nat × Nat) × AVal))
  | [] => some []
  | (k, v) :: r => match oldHv base r with
    | some r => match Nat.ble (k.1 + 1) base with
      | true => match v.under base with | true => some ((k, v) :: r) | false => none
      | false => some r
    | none => none

def oldVv (base : Nat) : List (Nat × Vc) → List (Nat × Vc)
  | [] => []
  | (k, v) :: r => match Nat.ble (k + 1) base with
    | true => (k, v) :: oldVv base r
    | false => oldVv base r

structure Rt where
  v : AVal
  vs : List Vc
  hv : List ((Nat × Nat) × AVal)
  vv : List (Nat × Vc)

/-- What has become of a call: a panic, where a condition holds, or an answer. -/
structure FR where
  pn : Option (Bool × AVal)
  rt : Option Rt
  nd : Bool

def mergeRV (base : Nat) (b : Bool) : AVal → AVal → AVal
  | .vec i e a n, .vec i' e' a' n' => match Nat.beq i i' with
    | true => match Nat.ble (i + 1) base with
      | true => mergeV b (.vec i e a n) (.vec i' e' a' n')
      | false => match Nat.beq a 0 && Nat.beq a' 0 with
        | true => match e, e' with
          | 0, e' => .vec i e' 0 (mergeNum b n n')
          | e, 0 => .vec i e 0 (mergeNum b n n')
          | e, e' => match Nat.beq e e' with | true => .vec i e 0 (mergeNum b n n') | false => .bad
        | false => .bad
    | false => .bad
  | .agg xs, .agg ys => match Nat.beq xs.length ys.length with | true => .agg (mergeRL base b xs ys) | false => .bad
  | .tuple xs, .tuple ys => match Nat.beq xs.length ys.length with | true => .tuple (mergeRL base b xs ys) | false => .bad
  | x, y => mergeV b x y
where
  mergeRL (base : Nat) (b : Bool) : List AVal → List AVal → List AVal
  | x :: xs, y :: ys => mergeRV base b x y :: mergeRL base b xs ys
  | _, _ => []

/-- Rows of one shape, or one that has none. -/
def okVr (v u : Vc) : Bool :=
  match v.sh, u.sh with
  | c :: sh, d :: sh' => eqSh (c :: sh) (d :: sh')
  | _, _ => true

def mergeVs (b : Bool) : List Vc → List Vc → Option (List Vc)
  | [], [] => some []
  | x :: xs, y :: ys => match okVr x y with
    | true => match mergeVs b xs ys with | some l => some (mergeVr b x y :: l) | none => none
    | false => none
  | _, _ => none

def blksOf : List Vc → List Blk
  | [] => []
  | v :: r => ⟨[], false, some v⟩ :: blksOf r

/-- What an answer does to the caller's memory. -/
def Rt.dl (x : Rt) : Dl := ⟨[], x.hv, x.vv, blksOf x.vs, [], true⟩

/-- Nothing put off. -/
def noDfs : List (AVal × List AVal) → Bool
  | [] => true
  | _ => false

/-- A way's end, where nothing is put off. 'ahv', 'avv': what has been written on the way to the last parting. -/
def leafT (P : Program) (rs : List ResultVar) (base : Nat) (S : St) (e : Ex) (d : Dl) (ahv : List ((Nat × Nat) × AVal)) (avv : List (Nat × Vc)) : Option FR :=
  match noDfs (S.ext d).dfs with
  | true => match e with
    | .exit _ => none
    | .panic v => match v.flat with
      | true => match oldHv base (d.hv ++ ahv), oldVv base (d.vv ++ avv) with
        | some [], [] => some ⟨some (true, v), none, d.nd⟩
        | _, _ => none
      | false => none
    | _ => match getRes P (S.ext d) rs with
      | some vs => match normV base (S.ext d) (one vs) ⟨[], [], true⟩, oldHv base (d.hv ++ ahv) with
        | some (v, m), some hv => some ⟨none, some ⟨v, m.vs, hv, oldVv base (d.vv ++ avv)⟩, cond d.nd m.nd false⟩
        | _, _ => none
      | none => none
  | false => none

def stuckF : FR := ⟨none, none, false⟩
def orStuckF : Option FR → FR
  | some t => t
  | none => stuckF

/-- Two ways' ends. 'S': the caller's state. -/
def mergeF (b : Bool) (S : St) (l r : FR) : Option FR :=
  let pn := match l.pn, r.pn with
    | none, none => none
    | some (p, v), none => some (cond b p false, v)
    | none, some (p, v) => some (cond b false p, v)
    | some (p, v), some (q, u) => some (cond b p q, mergeV b v u)
  match l.rt, r.rt with
  | none, none => some ⟨pn, none, ndc b l.nd r.nd⟩
  | some x, none => some ⟨pn, some x, ndc b l.nd r.nd⟩
  | none, some x => some ⟨pn, some x, ndc b l.nd r.nd⟩
  | some x, some y => match mergeVs b x.vs y.vs with
    | some vs => some ⟨pn, some ⟨mergeRV S.hp.length b x.v y.v, vs, (mergeD b S x.dl y.dl).hv, (mergeD b S x.dl y.dl).vv⟩, ndc b l.nd r.nd⟩
    | none => none

/-- The ends of all ways. 'S': the caller's state; 'T': where the tree begins. -/
def finT (lf : St → Ex → Dl → List ((Nat × Nat) × AVal) → List (Nat × Vc) → Option FR) (S : St) (T : St) (ahv : List ((Nat × Nat) × AVal)) (avv : List (Nat × Vc)) : Tr → Option FR
  | .leaf e d => lf T e d ahv avv
  | .node d b l r => match mergeF b S (orStuckF (finT lf S (T.ext d) (d.hv ++ ahv) (d.vv ++ avv) l)) (orStuckF (finT lf S (T.ext d) (d.hv ++ ahv) (d.vv ++ avv) r)) with
    | some f => some ⟨f.pn, f.rt, cond d.nd f.nd false⟩
    | none => none

def outOf (f : FR) : Option Out :=
  match f.rt with
  | some x => some ⟨x.v, x.hv, x.vv, blksOf x.vs, f.nd, f.pn⟩
  | none => match f.pn with
    | some p => some ⟨.raw undef, [], [], [], f.nd, some p⟩
    | none => none

def undefs : Nat → List AVal
  | 0 => []
  | n + 1 => .raw undef :: undefs n

/-- The state in which a body begins. -/
def St.start (S : St) (n : Nat) (args : List AVal) : St := ⟨args ++ undefs (Nat.sub n (lenL args)), [], S.hp, S.hvs, S.vvs, []⟩

/-- What becomes of a call. -/
noncomputable def evBody (P : Program) (Γ : List (Nat × Ctr)) (fuel : Nat) (fn : Func) (args : List AVal) (S : St) : Option Out :=
  match fn.body with
  | some c => match Nat.ble (lenL args) fn.ntmps with
    | true => match ev P Γ fn.ntmps fuel c (S.start fn.ntmps args) Dl.nil with
      | some t => match finT (leafT P fn.results.toList S.hp.length) S (S.start fn.ntmps args) [] [] t with
        | some f => outOf f
        | none => none
      | none => none
    | false => none
  | none => none

/-- A function walked into where it is called. -/
noncomputable def inl (P : Program) (Γ : List (Nat × Ctr)) (fuel : Nat) (fn : Func) : Ctr := ⟨evBody P Γ fuel fn, none⟩

end Go.Ab
