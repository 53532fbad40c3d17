import Derived.WalkKit
import Derived.WalkLawsBesides
namespace Go.Ab
open Go

/-- Abstract values. -/
inductive AVal where
  | bad
  | bool (b : Bool)
  | sbool (b : Bool)
  | int (k : IntKind) (n : Int)
  | sint (k : IntKind) (n : Int)
  | cbool (c b : Bool)
  | cint (c : Bool) (k : IntKind) (n : Int)
  | flt (k : FloatKind) (b : Nat)
  | ptr (i o : Nat)
  | slice (i o len cap : Nat)
  | raw (v : Value)
  | agg (cs : List AVal)
  | tuple (vs : List AVal)

def nanW : FloatKind → Nat
  | .f32 => 0x7fc00000
  | .f64 => 0x7ff8000000000000

def isNaNW (k : FloatKind) (b : Nat) : Bool := (k.format.read b).isNaN

def fopImpl (op : BinOp) (k : FloatKind) (x y : Nat) : Nat := (floatBits op k x y).getD (nanW k)
theorem fop_ex : ∃ f, f = fopImpl := ⟨_, rfl⟩
noncomputable def fop : BinOp → FloatKind → Nat → Nat → Nat := Classical.choose fop_ex
theorem fop_eq : fop = fopImpl := Classical.choose_spec fop_ex

def fltImpl (k : FloatKind) (x y : Nat) : Bool := k.format.order x y == some .lt
theorem flt_ex : ∃ f, f = fltImpl := ⟨_, rfl⟩
noncomputable def fltB : FloatKind → Nat → Nat → Bool := Classical.choose flt_ex
theorem fltB_eq : fltB = fltImpl := Classical.choose_spec flt_ex

def feqImpl (k : FloatKind) (x y : Nat) : Bool := k.format.order x y == some .eq
theorem feq_ex : ∃ f, f = feqImpl := ⟨_, rfl⟩
noncomputable def feqB : FloatKind → Nat → Nat → Bool := Classical.choose feq_ex
theorem feqB_eq : feqB = feqImpl := Classical.choose_spec feq_ex

noncomputable def fleB (k : FloatKind) (x y : Nat) : Bool := fltB k x y || feqB k x y

def fminImpl (k : FloatKind) (x y : Nat) : Nat := match k.format.order x y with
  | none => nanW k | some .lt => x | some .gt => y | some .eq => if (k.decode x).neg then x else y
def fmaxImpl (k : FloatKind) (x y : Nat) : Nat := match k.format.order x y with
  | none => nanW k | some .lt => y | some .gt => x | some .eq => if (k.decode x).neg then y else x
theorem fmin_ex : ∃ f, f = fminImpl := ⟨_, rfl⟩
noncomputable def fmin : FloatKind → Nat → Nat → Nat := Classical.choose fmin_ex
theorem fmin_eq : fmin = fminImpl := Classical.choose_spec fmin_ex
theorem fmax_ex : ∃ f, f = fmaxImpl := ⟨_, rfl⟩
noncomputable def fmax : FloatKind → Nat → Nat → Nat := Classical.choose fmax_ex
theorem fmax_eq : fmax = fmaxImpl := Classical.choose_spec fmax_ex

/-- float64(x) of a float32. -/
def wideImpl (x : Nat) : Nat := (floatToFloatBits .f32 x .f64).getD (nanW .f64)
theorem wide_ex : ∃ f, f = wideImpl := ⟨_, rfl⟩
noncomputable def wide : Nat → Nat := Classical.choose wide_ex
theorem wide_eq : wide = wideImpl := Classical.choose_spec wide_ex

theorem ofInt_ex : ∃ f, f = floatOfInt := ⟨_, rfl⟩
noncomputable def ofInt : FloatKind → Int → Nat := Classical.choose ofInt_ex
theorem ofInt_eq : ofInt = floatOfInt := Classical.choose_spec ofInt_ex

theorem nanB_ex : ∃ f, f = isNaNW := ⟨_, rfl⟩
noncomputable def nanB : FloatKind → Nat → Bool := Classical.choose nanB_ex
theorem nanB_eq : nanB = isNaNW := Classical.choose_spec nanB_ex

noncomputable def fneg (k : FloatKind) (b : Nat) : Nat := Op.negFloat k b

structure Blk where
  cells : List AVal
  wr : Bool

/-- The full abstract state. -/
structure St where
  fr : List AVal
  ovs : List (List (Nat × AVal))
  hp : List Blk
  hvs : List (List ((Nat × Nat) × AVal))

structure Dl where
  ov : List (Nat × AVal)
  hv : List ((Nat × Nat) × AVal)
  nw : List Blk

def Dl.nil : Dl := ⟨[], [], []⟩

def St.ext (S : St) (d : Dl) : St := ⟨S.fr, d.ov :: S.ovs, S.hp ++ d.nw, d.hv :: S.hvs⟩

def look1 (t : Nat) : List (Nat × AVal) → Option AVal
  | [] => none
  | (k, v) :: r => match Nat.beq t k with | true => some v | false => look1 t r

def lookL (t : Nat) : List (List (Nat × AVal)) → Option AVal
  | [] => none
  | l :: r => match look1 t l with | some v => some v | none => lookL t r

def nth (t : Nat) : List AVal → AVal
  | [] => .bad
  | v :: r => match t with | 0 => v | t + 1 => nth t r

def St.get (S : St) (t : Nat) : AVal := match lookL t S.ovs with | some v => v | none => nth t S.fr

def hlook1 (i o : Nat) : List ((Nat × Nat) × AVal) → Option AVal
  | [] => none
  | (k, v) :: r => match Nat.beq i k.1 && Nat.beq o k.2 with | true => some v | false => hlook1 i o r

def hlookL (i o : Nat) : List (List ((Nat × Nat) × AVal)) → Option AVal
  | [] => none
  | l :: r => match hlook1 i o l with | some v => some v | none => hlookL i o r

def nthB (t : Nat) : List Blk → Blk
  | [] => ⟨[], false⟩
  | v :: r => match t with | 0 => v | t + 1 => nthB t r

def St.blk (S : St) (i : Nat) : Blk := nthB i S.hp

def St.cell (S : St) (i o : Nat) : Option AVal :=
  match Nat.ble (o + 1) (S.blk i).cells.length with
  | true => match hlookL i o S.hvs with | some v => some v | none => some (nth o (S.blk i).cells)
  | false => none

def St.cellsAt (S : St) (i : Nat) : Nat → Nat → Option (List AVal)
  | _, 0 => some []
  | o, n + 1 => match S.cell i o with
    | some v => match S.cellsAt i (o + 1) n with | some r => some (v :: r) | none => none
    | none => none

def wordTop : FloatKind → Nat
  | .f32 => 4294967296
  | .f64 => 18446744073709551616

def absV : Value → AVal
  | .bool b => .bool b
  | .int k n => .int k n
  | .float k b => match Nat.ble (b + 1) (wordTop k) with | true => .flt k b | false => .raw (.float k b)
  | v => .raw v

def absC (cs : List Value) : List AVal := cs.map absV

def opd (S : St) : Operand → AVal
  | .tmp t => S.get t
  | .const v => match v with
    | .agg cs => .agg (absC cs.toList)
    | v => absV v
  | .global g => .raw (.pointer (some ⟨g, 0, none⟩))
  | .func f => .raw (.func (.func f) #[] #[])

def AVal.cells : AVal → List AVal
  | .agg cs => cs
  | v => [v]

def natCond (b : Bool) (x y : Nat) : Nat := cond b x y

/-- Merge two values: the first where 'b' holds. -/
def mergeV (b : Bool) : AVal → AVal → AVal
  | .bool x, .bool y => .sbool (cond b x y)
  | .bool x, .sbool y => .sbool (cond b x y)
  | .sbool x, .bool y => .sbool (cond b x y)
  | .sbool x, .sbool y => .sbool (cond b x y)
  | .bool x, .cbool c y => .cbool (cond b true c) (cond b x y)
  | .sbool x, .cbool c y => .cbool (cond b true c) (cond b x y)
  | .cbool c x, .bool y => .cbool (cond b c true) (cond b x y)
  | .cbool c x, .sbool y => .cbool (cond b c true) (cond b x y)
  | .cbool c x, .cbool d y => .cbool (cond b c d) (cond b x y)
  | .int k x, .int k' y => match decide (k = k') with | true => (match decide (x = y) with | true => .int k x | false => .sint k (cond b x y)) | false => .bad
  | .int k x, .sint k' y => match decide (k = k') with | true => .sint k (cond b x y) | false => .bad
  | .sint k x, .int k' y => match decide (k = k') with | true => .sint k (cond b x y) | false => .bad
  | .sint k x, .sint k' y => match decide (k = k') with | true => .sint k (cond b x y) | false => .bad
  | .int k x, .cint c k' y => match decide (k = k') with | true => .cint (cond b true c) k (cond b x y) | false => .bad
  | .sint k x, .cint c k' y => match decide (k = k') with | true => .cint (cond b true c) k (cond b x y) | false => .bad
  | .cint c k x, .int k' y => match decide (k = k') with | true => .cint (cond b c true) k (cond b x y) | false => .bad
  | .cint c k x, .sint k' y => match decide (k = k') with | true => .cint (cond b c true) k (cond b x y) | false => .bad
  | .cint c k x, .cint d k' y => match decide (k = k') with | true => .cint (cond b c d) k (cond b x y) | false => .bad
  | .flt k x, .flt k' y => match decide (k = k') with | true => .flt k (cond b x y) | false => .bad
  | .ptr i o, .ptr i' o' => match Nat.beq i i' && Nat.beq o o' with | true => .ptr i o | false => .bad
  | .slice i o l c, .slice i' o' l' c' => match Nat.beq i i' && Nat.beq o o' && Nat.beq l l' && Nat.beq c c' with | true => .slice i o l c | false => .bad
  | .agg xs, .agg ys => match Nat.beq xs.length ys.length with | true => .agg (mergeL b xs ys) | false => .bad
  | .tuple xs, .tuple ys => match Nat.beq xs.length ys.length with | true => .tuple (mergeL b xs ys) | false => .bad
  | _, _ => .bad
where
  mergeL (b : Bool) : List AVal → List AVal → List AVal
  | x :: xs, y :: ys => mergeV b x y :: mergeL b xs ys
  | _, _ => []

end Go.Ab

namespace Go.Ab
open Go

/-! Types, off the program's own tables. -/
inductive Kd where
  | int (k : IntKind) | flt (k : FloatKind) | bool | str
  | arr (len elem : Nat) | struct (fs : List Field) | slice (elem : Nat) | other

def kd (P : Program) (t : TypeId) : Option Kd :=
  match P.underlying t with
  | some (.int k) => some (.int k)
  | some (.float k) => some (.flt k)
  | some .bool => some .bool
  | some .string => some .str
  | some (.array n e) => some (.arr n e)
  | some (.struct fs) => some (.struct fs.toList)
  | some (.slice e) => some (.slice e)
  | some _ => some .other
  | none => none

def Kd.isAgg : Kd → Bool
  | .arr _ _ => true
  | .struct _ => true
  | _ => false

def tsize (P : Program) (t : TypeId) : Option Nat := match P.info? t with | some i => some i.size | none => none

def tzero (P : Program) (t : TypeId) : Option Value := match P.info? t with | some i => i.zero | none => none

/-- A contract: (x: it has no body) from the arguments (pointers and slices lead to the views 0, 1, ..) and what the views hold, the answer and what the views hold then (none: as before). -/
inductive Xk where
  | f32bits | f64bits | f32from | f64from

structure Ctr where
  views : List Nat
  fn : List AVal → List (List AVal) → Option (AVal × Option (List (List AVal)))
  x : Option Xk := none

/-- Functions without a body. -/
noncomputable def evExt (k : Xk) (args : List AVal) : Option AVal :=
  match k, args with
  | .f32bits, [.flt .f32 b] => some (.cint (!nanB .f32 b) .u32 (Int.ofNat b))
  | .f64bits, [.flt .f64 b] => some (.cint (!nanB .f64 b) .u64 (Int.ofNat b))
  | .f32from, [.int .u32 n] => match Nat.ble (n.toNat + 1) (wordTop .f32) with | true => some (.flt .f32 n.toNat) | false => none
  | .f64from, [.int .u64 n] => match Nat.ble (n.toNat + 1) (wordTop .f64) with | true => some (.flt .f64 n.toNat) | false => none
  | _, _ => none

def lookC (f : Nat) : List (Nat × Ctr) → Option Ctr
  | [] => none
  | (g, c) :: r => match Nat.beq f g with | true => some c | false => lookC f r

/-- No pointer of the call's own in it. -/
def AVal.flat : AVal → Bool
  | .bad => false
  | .ptr _ _ => false
  | .slice _ _ _ _ => false
  | .agg cs => flatL cs
  | .tuple cs => flatL cs
  | _ => true
where flatL : List AVal → Bool
  | [] => true
  | c :: r => match c.flat with | true => flatL r | false => false

structure Vw where
  i : Nat
  o : Nat
  n : Nat

/-- The arguments as the callee sees them, the views, and what they hold. -/
def mkArgs (S : St) : List AVal → List Nat → Nat → Option (List AVal × List Vw × List (List AVal))
  | [], _, _ => some ([], [], [])
  | a :: as, vs, j =>
    match a with
    | .ptr i o =>
      match vs with
      | n :: vs' => match S.cellsAt i o n with
        | some cs => match AVal.flat.flatL cs with
          | true => match mkArgs S as vs' (j + 1) with
            | some (as', ws, bl) => some (.ptr j 0 :: as', ⟨i, o, n⟩ :: ws, cs :: bl)
            | none => none
          | false => none
        | none => none
      | [] => none
    | .slice i o l c =>
      match vs with
      | e :: vs' => match S.cellsAt i o (l * e) with
        | some cs => match AVal.flat.flatL cs with
          | true => match mkArgs S as vs' (j + 1) with
            | some (as', ws, bl) => some (.slice j 0 l c :: as', ⟨i, o, l * e⟩ :: ws, cs :: bl)
            | none => none
          | false => none
        | none => none
      | [] => none
    | a => match a.flat with
      | true => match mkArgs S as (vs.drop 1) j with
        | some (as', ws, bl) => some (a :: as', ws, bl)
        | none => none
      | false => none

structure Out where
  v : AVal
  hv : List ((Nat × Nat) × AVal)
  nw : List Blk

def pureO (v : AVal) : Option Out := some ⟨v, [], []⟩

/-- Sure to be the value of one cell. -/
def AVal.oneA : AVal → Bool
  | .bad => false
  | .agg _ => false
  | .tuple _ => false
  | .raw v => v.oneCell'
  | _ => true

def allOne : List AVal → Bool
  | [] => true
  | v :: r => match v.oneA with | true => allOne r | false => false

def storeL (i : Nat) : Nat → List AVal → List ((Nat × Nat) × AVal)
  | _, [] => []
  | o, v :: r => ((i, o), v) :: storeL i (o + 1) r

def wrapK (k : IntKind) (n : Int) : Int := k.wrap n

def arith (op : BinOp) (k : IntKind) (x y : Int) : Option Int :=
  match op with
  | .add => some (k.wrap (x + y))
  | .sub => some (k.wrap (x - y))
  | .mul => some (k.wrap (x * y))
  | .and => some (k.wrap (BitVec.ofInt k.bits x &&& BitVec.ofInt k.bits y).toNat)
  | .or => some (k.wrap (BitVec.ofInt k.bits x ||| BitVec.ofInt k.bits y).toNat)
  | .xor => some (k.wrap (BitVec.ofInt k.bits x ^^^ BitVec.ofInt k.bits y).toNat)
  | _ => none

def icmp (op : BinOp) (x y : Int) : Option Bool :=
  match op with
  | .eql => some (x == y)
  | .neq => some (x != y)
  | .lss => some (decide (x < y))
  | .leq => some (decide (x ≤ y))
  | .gtr => some (decide (x > y))
  | .geq => some (decide (x ≥ y))
  | _ => none

noncomputable def fcmp (op : BinOp) (k : FloatKind) (x y : Nat) : Option Bool :=
  match op with
  | .eql => some (feqB k x y)
  | .neq => some (!feqB k x y)
  | .lss => some (fltB k x y)
  | .leq => some (fleB k x y)
  | .gtr => some (fltB k y x)
  | .geq => some (fleB k y x)
  | _ => none

def isFop (op : BinOp) : Bool := match op with | .add | .sub | .mul | .quo => true | _ => false

def isBoolT (P : Program) (t : TypeId) : Bool := match kd P t with | some .bool => true | _ => false

def beqV (op : BinOp) (a b : Bool) : Option Bool := match op with | .eql => some (a == b) | .neq => some (a != b) | _ => none

/-- Where both are as they are told, so is the answer. -/
def evC (op : BinOp) (c d : Bool) (k : IntKind) (a b : Int) : Option AVal :=
  match arith op k a b with
  | some n => some (.cint (c && d) k n)
  | none => match icmp op a b with
    | some e => some (.cbool (c && d) e)
    | none => none

noncomputable def evBin (P : Program) (t : TypeId) (op : BinOp) (x y : AVal) : Option AVal :=
  match x, y with
  | .int k a, .int k' b => match decide (k = k') with
    | true => match arith op k a b with | some n => some (.int k n) | none => match icmp op a b with | some c => some (.bool c) | none => none
    | false => none
  | .sint k a, .int k' b => match decide (k = k') with
    | true => match arith op k a b with | some n => some (.sint k n) | none => match icmp op a b with | some c => some (.sbool c) | none => none
    | false => none
  | .int k a, .sint k' b => match decide (k = k') with
    | true => match arith op k a b with | some n => some (.sint k n) | none => match icmp op a b with | some c => some (.sbool c) | none => none
    | false => none
  | .sint k a, .sint k' b => match decide (k = k') with
    | true => match arith op k a b with | some n => some (.sint k n) | none => match icmp op a b with | some c => some (.sbool c) | none => none
    | false => none
  | .cint c k a, .int k' b => match decide (k = k') with
    | true => evC op c true k a b
    | false => none
  | .cint c k a, .sint k' b => match decide (k = k') with
    | true => evC op c true k a b
    | false => none
  | .int k a, .cint d k' b => match decide (k = k') with
    | true => evC op true d k a b
    | false => none
  | .sint k a, .cint d k' b => match decide (k = k') with
    | true => evC op true d k a b
    | false => none
  | .cint c k a, .cint d k' b => match decide (k = k') with
    | true => evC op c d k a b
    | false => none
  | .flt k a, .flt k' b => match decide (k = k') with
    | true => match isFop op with
      | true => some (.flt k (fop op k a b))
      | false => match fcmp op k a b with | some c => some (.sbool c) | none => none
    | false => none
  | .bool a, .bool b => match isBoolT P t with
    | true => match beqV op a b with | some c => some (.bool c) | none => none
    | false => none
  | .sbool a, .bool b => match isBoolT P t with
    | true => match beqV op a b with | some c => some (.sbool c) | none => none
    | false => none
  | .bool a, .sbool b => match isBoolT P t with
    | true => match beqV op a b with | some c => some (.sbool c) | none => none
    | false => none
  | .sbool a, .sbool b => match isBoolT P t with
    | true => match beqV op a b with | some c => some (.sbool c) | none => none
    | false => none
  | _, _ => none

noncomputable def evUn (op : UnOp) (x : AVal) : Option AVal :=
  match op, x with
  | .not, .bool b => some (.bool !b)
  | .not, .sbool b => some (.sbool !b)
  | .not, .cbool c b => some (.cbool c !b)
  | .neg, .int k n => some (.int k (k.wrap (0 - n)))
  | .neg, .sint k n => some (.sint k (k.wrap (0 - n)))
  | .neg, .flt k b => some (.flt k (fneg k b))
  | _, _ => none

noncomputable def evConv (P : Program) (src dst : TypeId) (x : AVal) : Option AVal :=
  match kd P src with
  | none => none
  | some _ => match kd P dst, x with
  | some (.int k), .int _ n => some (.int k (k.wrap n))
  | some (.int k), .sint _ n => some (.sint k (k.wrap n))
  | some (.int k), .cint c _ n => some (.cint c k (k.wrap n))
  | some (.flt k), .int _ n => some (.flt k (ofInt k n))
  | some (.flt k), .sint _ n => some (.flt k (ofInt k n))
  | some (.flt .f64), .flt .f32 b => some (.flt .f64 (wide b))
  | some (.flt .f32), .flt .f32 b => some (.flt .f32 b)
  | some (.flt .f64), .flt .f64 b => some (.flt .f64 b)
  | _, _ => none

def fieldOf (fs : List Field) (n : Nat) : Option Field := match fs, n with
  | [], _ => none
  | f :: _, 0 => some f
  | _ :: r, n + 1 => fieldOf r n

def natOf : Int → Option Nat
  | .ofNat n => some n
  | .negSucc _ => none

def cutL : List AVal → Nat → Nat → List AVal
  | l, o, n => (l.drop o).take n

/-- A part of an aggregate. -/
def partV (P : Program) (t : TypeId) (cs : List AVal) (o : Nat) : Option AVal :=
  match kd P t, tsize P t with
  | some k, some n => match k.isAgg with
    | true => match Nat.ble (o + n) cs.length with | true => some (.agg (cutL cs o n)) | false => none
    | false => match Nat.ble (o + 1) cs.length with | true => some (nth o cs) | false => none
  | _, _ => none

def idxOf (i : AVal) (len : Nat) : Option Nat :=
  match i with
  | .int _ n => match natOf n with
    | some m => match Nat.ble (m + 1) len with | true => some m | false => none
    | none => none
  | _ => none

def fillA (cells : List AVal) (o : Nat) : List AVal → List AVal
  | [] => cells
  | v :: r => fillA (cells.set o v) (o + 1) r

/-- The cells of a value that is sure to be one. -/
def cellsO : AVal → Option (List AVal)
  | .tuple _ => none
  | .bad => none
  | .raw v => match v.oneCell' with | true => some [.raw v] | false => none
  | .agg cs => some cs
  | v => some [v]

def plcs (P : Program) : List Field → Option (List (Nat × Nat))
  | [] => some []
  | f :: r => match tsize P f.type with
    | some n => match plcs P r with | some l => some ((f.offset, n) :: l) | none => none
    | none => none

def nthP (t : Nat) : List (Nat × Nat) → Option (Nat × Nat)
  | [] => none
  | v :: r => match t with | 0 => some v | t + 1 => nthP t r

def fillG (pl : Nat → Option (Nat × Nat)) (S : St) : List AVal → List (Nat × Operand) → Option (List AVal)
  | cells, [] => some cells
  | cells, (j, x) :: r => match pl j with
    | none => none
    | some (off, sz) => match cellsO (opd S x) with
      | some v => match Nat.beq v.length sz && Nat.ble (off + v.length) cells.length with
        | true => fillG pl S (fillA cells off v) r
        | false => none
      | none => none

def argsOf (S : St) : List Operand → List AVal
  | [] => []
  | x :: r => opd S x :: argsOf S r

noncomputable def minmax (mx : Bool) : List AVal → Option AVal
  | [.flt k a, .flt k' b] => match decide (k = k') with
    | true => match mx with
      | true => some (.flt k (fmax k a b))
      | false => some (.flt k (fmin k a b))
    | false => none
  | _ => none

noncomputable def evBuiltin (P : Program) (b : Builtin) (ts : List TypeId) (args : List AVal) : Option AVal :=
  match b, args with
  | .len, [.slice _ _ l _] => match ts with
    | t :: _ => match kd P t with | some (.slice _) => some (.int .i64 l) | _ => none
    | [] => none
  | .len, [.agg _] => match ts with
    | t :: _ => match kd P t with | some (.arr n _) => some (.int .i64 n) | _ => none
    | [] => none
  | .min, args => minmax false args
  | .max, args => minmax true args
  | _, _ => none

def writeViews : List Vw → List (List AVal) → Option (List ((Nat × Nat) × AVal))
  | [], [] => some []
  | w :: ws, b :: bs => match Nat.beq w.n b.length && AVal.flat.flatL b with
    | true => match writeViews ws bs with
      | some r => some (storeL w.i w.o b ++ r)
      | none => none
    | false => none
  | _, _ => none

def okViews (S : St) : List Vw → Bool
  | [] => true
  | w :: ws => (S.blk w.i).wr && ws.all (fun u => !Nat.beq u.i w.i) && okViews S ws

noncomputable def evCall (Γ : List (Nat × Ctr)) (S : St) (f : FuncId) (args : List AVal) : Option Out :=
  match lookC f Γ with
  | some c => match c.x with
   | some k => match evExt k args with | some v => pureO v | none => none
   | none => match mkArgs S args c.views 0 with
    | some (as, ws, bl) => match c.fn as bl with
      | some (v, none) => match v.flat with | true => pureO v | false => none
      | some (v, some bl') => match v.flat && okViews S ws with
        | true => match writeViews ws bl' with
          | some h => some ⟨v, h, []⟩
          | none => none
        | false => none
      | none => none
    | none => none
  | none => none

noncomputable def evOp (P : Program) (Γ : List (Nat × Ctr)) (S : St) (op : Op) : Option Out :=
  match op with
  | .move x => pureO (opd S x)
  | .assign x => pureO (opd S x)
  | .pick c a b => match opd S c with
    | .bool true => pureO (opd S a)
    | .bool false => pureO (opd S b)
    | .sbool c => pureO (mergeV c (opd S a) (opd S b))
    | _ => none
  | .alloc t => match tzero P t with
    | some z => some ⟨.ptr S.hp.length 0, [], [⟨absC z.cells.toList, true⟩]⟩
    | none => none
  | .box _ x => match cellsO (opd S x) with
    | some cs => some ⟨.ptr S.hp.length 0, [], [⟨cs, true⟩]⟩
    | none => none
  | .build t parts => match tzero P t, kd P t with
    | some z, some (.struct fs) => match plcs P fs with
      | some pl => match fillG (fun j => nthP j pl) S (absC z.cells.toList) parts.toList with
        | some cs => pureO (.agg cs)
        | none => none
      | none => none
    | some z, some (.arr _ e) => match tsize P e with
      | some sz => match fillG (fun j => some (j * sz, sz)) S (absC z.cells.toList) parts.toList with
        | some cs => pureO (.agg cs)
        | none => none
      | none => none
    | _, _ => none
  | .load t a => match opd S a with
    | .ptr i o => match kd P t, tsize P t with
      | some k, some n => match k.isAgg with
        | true => match S.cellsAt i o n with | some cs => pureO (.agg cs) | none => none
        | false => match S.cell i o with | some v => pureO v | none => none
      | _, _ => none
    | _ => none
  | .store t a x => match opd S a with
    | .ptr i o => match tsize P t, cellsO (opd S x) with
      | some n, some cs => match Nat.beq cs.length n && (S.blk i).wr && Nat.ble (o + n) (S.blk i).cells.length && allOne cs with
        | true => some ⟨.raw undef, storeL i o cs, []⟩
        | false => none
      | _, _ => none
    | _ => none
  | .nilCheck x => match opd S x with
    | .ptr i o => pureO (.ptr i o)
    | _ => none
  | .binOp op t x y _ => match evBin P t op (opd S x) (opd S y) with | some v => pureO v | none => none
  | .unOp op _ x => match evUn op (opd S x) with | some v => pureO v | none => none
  | .convert src dst x => match evConv P src dst (opd S x) with | some v => pureO v | none => none
  | .fieldAddr s x f => match opd S x, kd P s with
    | .ptr i o, some (.struct fs) => match fieldOf fs f with
      | some fd => match tsize P fd.type with
        | some 0 => none
        | some _ => pureO (.ptr i (Nat.add o fd.offset))
        | none => none
      | none => none
    | _, _ => none
  | .field t x f => match opd S x, kd P t with
    | .agg cs, some (.struct fs) => match fieldOf fs f with
      | some fd => match partV P fd.type cs fd.offset with | some v => pureO v | none => none
      | none => none
    | _, _ => none
  | .indexAddr t x ix => match opd S x, kd P t with
    | .ptr i o, some (.arr n e) => match idxOf (opd S ix) n, tsize P e with
      | some m, some sz => pureO (.ptr i (Nat.add o (Nat.mul m sz)))
      | _, _ => none
    | .slice i o l _, some (.slice e) => match idxOf (opd S ix) l, tsize P e with
      | some m, some sz => pureO (.ptr i (Nat.add o (Nat.mul m sz)))
      | _, _ => none
    | _, _ => none
  | .index t x ix => match opd S x, kd P t with
    | .agg cs, some (.arr n e) => match idxOf (opd S ix) n, tsize P e with
      | some m, some sz => match partV P e cs (Nat.mul m sz) with | some v => pureO v | none => none
      | _, _ => none
    | _, _ => none
  | .slice t x lo hi mx => match opd S x, kd P t, mx with
    | .ptr i o, some (.arr n e), none =>
      match (match lo with | none => some 0 | some a => idxOf (opd S a) (n + 1)), (match hi with | none => some n | some a => idxOf (opd S a) (n + 1)), tsize P e with
      | some l, some h, some sz => match Nat.ble l h && Nat.ble (l + 1) n with
        | true => pureO (.slice i (Nat.add o (Nat.mul l sz)) (Nat.sub h l) (Nat.sub n l))
        | false => none
      | _, _, _ => none
    | _, _, _ => none
  | .extract t ix => match opd S t with
    | .tuple vs => match Nat.ble (ix + 1) vs.length with | true => pureO (nth ix vs) | false => none
    | _ => none
  | .call c => match c.callee with
    | .builtin b => match evBuiltin P b c.argTypes.toList (argsOf S c.args.toList) with | some v => pureO v | none => none
    | .value (.func f) => evCall Γ S f (argsOf S c.args.toList)
    | _ => none
  | _ => none

/-! Trees of ways. -/
inductive Ex where
  | normal
  | exit (id : Nat)
  | ret

def Ex.same : Ex → Ex → Bool
  | .normal, .normal => true
  | .ret, .ret => true
  | .exit i, .exit j => Nat.beq i j
  | _, _ => false

inductive Tr where
  | leaf (e : Ex) (d : Dl)
  | node (d : Dl) (b : Bool) (l r : Tr)

def memN (t : Nat) : List Nat → Bool
  | [] => false
  | k :: r => match Nat.beq t k with | true => true | false => memN t r

def keysO : List (Nat × AVal) → List Nat → List Nat
  | [], acc => acc
  | (k, _) :: r, acc => match memN k acc with | true => keysO r acc | false => keysO r (k :: acc)

def memP (i o : Nat) : List (Nat × Nat) → Bool
  | [] => false
  | k :: r => match Nat.beq i k.1 && Nat.beq o k.2 with | true => true | false => memP i o r

def keysH : List ((Nat × Nat) × AVal) → List (Nat × Nat) → List (Nat × Nat)
  | [], acc => acc
  | (k, _) :: r, acc => match memP k.1 k.2 acc with | true => keysH r acc | false => keysH r (k :: acc)

def mergeOv (b : Bool) (S1 S2 : St) : List Nat → List (Nat × AVal)
  | [] => []
  | t :: r => (t, mergeV b (S1.get t) (S2.get t)) :: mergeOv b S1 S2 r

def cellD (S : St) (k : Nat × Nat) : AVal := match S.cell k.1 k.2 with | some v => v | none => .bad

def mergeHv (b : Bool) (n : Nat) (S1 S2 : St) : List (Nat × Nat) → List ((Nat × Nat) × AVal)
  | [] => []
  | k :: r => match Nat.ble (k.1 + 1) n with
    | true => (k, mergeV b (cellD S1 k) (cellD S2 k)) :: mergeHv b n S1 S2 r
    | false => mergeHv b n S1 S2 r

def deadB : Nat → List Blk
  | 0 => []
  | n + 1 => ⟨[], false⟩ :: deadB n

/-- One way on, where both ways of a branch have come to the same place. -/
def mergeD (b : Bool) (S : St) (d1 d2 : Dl) : Dl :=
  ⟨mergeOv b (S.ext d1) (S.ext d2) (keysO d2.ov (keysO d1.ov [])),
   mergeHv b S.hp.length (S.ext d1) (S.ext d2) (keysH d2.hv (keysH d1.hv [])),
   deadB (Nat.add d1.nw.length d2.nw.length)⟩

def Dl.comp (d dm : Dl) : Dl := ⟨dm.ov ++ d.ov, dm.hv ++ d.hv, d.nw ++ dm.nw⟩

def mkNode (S : St) (d : Dl) (b : Bool) (l r : Tr) : Tr :=
  match l, r with
  | .leaf e1 d1, .leaf e2 d2 => match Ex.same e1 e2 with
    | true => .leaf e1 (d.comp (mergeD b (S.ext d) d1 d2))
    | false => .node d b l r
  | _, _ => .node d b l r

/-- Go on from each normal leaf. -/
def bindT (S : St) (t : Tr) (f : St → Dl → Option Tr) : Option Tr :=
  match t with
  | .leaf e d => match e with
    | .normal => f S d
    | e => some (.leaf e d)
  | .node d b l r => match bindT (S.ext d) l f with
    | some l' => match bindT (S.ext d) r f with
      | some r' => some (mkNode S d b l' r')
      | none => none
    | none => none

/-- A block's end: its own exit is the way on. -/
def unblock (id : Nat) (S : St) : Tr → Tr
  | .leaf e d => match e with
    | .exit j => match Nat.beq id j with | true => .leaf .normal d | false => .leaf e d
    | e => .leaf e d
  | .node d b l r => mkNode S d b (unblock id (S.ext d) l) (unblock id (S.ext d) r)

def Dl.put (d : Dl) (dst : Option Nat) (v : AVal) (hv : List ((Nat × Nat) × AVal)) (nw : List Blk) : Dl :=
  ⟨match dst with | some t => (t, v) :: d.ov | none => d.ov, hv ++ d.hv, d.nw ++ nw⟩

def slotOf (ops : List Oper) : Nat → Option Nat
  | 0 => match ops with | o :: _ => o.dst | [] => none
  | n + 1 => match ops with | _ :: r => slotOf r n | [] => none

inductive Gd where
  | yes | no | split (t : Nat) (b : Bool) | stuck

/-- What a guard says. -/
def guardOf (ops : List Oper) (S : St) (g : Option (Nat × Bool)) : Gd :=
  match g with
  | none => .yes
  | some (j, want) => match slotOf ops j with
    | none => .no
    | some t => match S.get t with
      | .bool b => match b == want with | true => .yes | false => .no
      | .sbool b => .split t b
      | .raw (.tuple _) => .no
      | _ => .stuck

/-- The slot is one of the frame's. -/
def okDst (N : Nat) : Option Nat → Bool
  | none => true
  | some t => Nat.ble (t + 1) N

/-- Nothing is written, nothing is made. -/
def Out.quiet (o : Out) : Bool := match o.hv, o.nw with | [], [] => true | _, _ => false

noncomputable def evOps (P : Program) (Γ : List (Nat × Ctr)) (N : Nat) (q : Bool) (all : List Oper) : Nat → List Oper → St → Dl → Option Tr
  | 0, _, _, _ => none
  | _ + 1, [], _, d => some (.leaf .normal d)
  | n + 1, o :: rest, S, d =>
    match okDst N o.dst with
    | false => none
    | true =>
      match guardOf all (S.ext d) o.guard with
      | .yes => match evOp P Γ (S.ext d) o.op with
        | some out => match !q || out.quiet with
          | true => evOps P Γ N q all n rest S (d.put o.dst out.v out.hv out.nw)
          | false => none
        | none => none
      | .no => evOps P Γ N q all n rest S (d.put o.dst (.raw undef) [] [])
      | .split t b =>
        match evOps P Γ N q all n (o :: rest) (S.ext d) ⟨[(t, .bool true)], [], []⟩ with
        | some l => match evOps P Γ N q all n (o :: rest) (S.ext d) ⟨[(t, .bool false)], [], []⟩ with
          | some r => some (mkNode S d b l r)
          | none => none
        | none => none
      | .stuck => none

/-! Whether a region that draws its order may be read in the text's order. -/
def tmpsOf : List Operand → List Nat
  | [] => []
  | .tmp t :: r => t :: tmpsOf r
  | _ :: r => tmpsOf r

/-- The slots that an operation looks at. -/
def looks (all : List Oper) (o : Oper) : List Nat :=
  (match o.guard with | some (j, _) => (match slotOf all j with | some t => [t] | none => []) | none => []) ++ tmpsOf o.op.operands.toList

/-- What surely comes ahead of each operation, the first ones first. -/
def ancs : List Oper → List (List Nat) → List (List Nat)
  | [], acc => acc
  | o :: r, acc => ancs r (acc ++ [(o.after.toList.filter (fun e => Region.binds .any e)).foldl (fun l e => e.on :: ((acc[e.on]?).getD [] ++ l)) []])

def memT (t : Option Nat) (l : List Nat) : Bool := match t with | some t => memN t l | none => false

def sameT (t u : Option Nat) : Bool := match t, u with | some t, some u => Nat.beq t u | _, _ => false

/-- 'o' (the i-th) against the later ones. -/
def drawRow (all : List Oper) (anc : List (List Nat)) (o : Oper) (i : Nat) : List Oper → Nat → Bool
  | [], _ => true
  | u :: r, j =>
    (!sameT o.dst u.dst) &&
    ((!(memT o.dst (looks all u) || memT u.dst (looks all o))) || memN i ((anc[j]?).getD [])) &&
    drawRow all anc o i r (j + 1)

def drawRows (all : List Oper) (anc : List (List Nat)) : List Oper → Nat → Bool
  | [], _ => true
  | o :: r, i => drawRow all anc o i r (i + 1) && (o.after.toList.all fun e => !Region.binds .any e || Nat.ble (e.on + 1) i) && drawRows all anc r (i + 1)

def drawOk (all : List Oper) : Bool := drawRows all (ancs all []) all 0

def tmpOf : Operand → Option Nat
  | .tmp t => some t
  | _ => none

noncomputable def ev (P : Program) (Γ : List (Nat × Ctr)) (N : Nat) : Nat → Code → St → Dl → Option Tr
  | 0, _, _, _ => none
  | n + 1, c, S, d =>
    match c with
    | .skip => some (.leaf .normal d)
    | .label _ => some (.leaf .normal d)
    | .ret => some (.leaf .ret d)
    | .exit id => some (.leaf (.exit id) d)
    | .seq a b => match ev P Γ N n a S d with
      | some t => bindT S t (fun S d => ev P Γ N n b S d)
      | none => none
    | .cond c a b => match opd (S.ext d) c with
      | .bool true => ev P Γ N n a S d
      | .bool false => ev P Γ N n b S d
      | .sbool x => match tmpOf c with
        | some t => match ev P Γ N n a (S.ext d) ⟨[(t, .bool true)], [], []⟩ with
          | some l => match ev P Γ N n b (S.ext d) ⟨[(t, .bool false)], [], []⟩ with
            | some r => some (mkNode S d x l r)
            | none => none
          | none => none
        | none => none
      | _ => none
    | .block id a => match ev P Γ N n a S d with
      | some t => some (unblock id S t)
      | none => none
    | .loop a => match ev P Γ N n a S d with
      | some t => bindT S t (fun S d => ev P Γ N n (.loop a) S d)
      | none => none
    | .region _ ops draw => match draw with
      | false => evOps P Γ N false ops.toList 300 ops.toList S d
      | true => match drawOk ops.toList with
        | true => evOps P Γ N true ops.toList 300 ops.toList S d
        | false => none
    | _ => none

def getRes (P : Program) (S : St) : List ResultVar → Option (List AVal)
  | [] => some []
  | .tmp t :: r => match getRes P S r with | some vs => some (S.get t :: vs) | none => none
  | .cell a t :: r => match S.get a with
    | .ptr i o => match kd P t, tsize P t, getRes P S r with
      | some k, some n, some vs => match k.isAgg with
        | true => match S.cellsAt i o n with | some cs => some (.agg cs :: vs) | none => none
        | false => match S.cell i o with | some v => some (v :: vs) | none => none
      | _, _, _ => none
    | _ => none

def one : List AVal → AVal
  | [v] => v
  | vs => .tuple vs

/-- The answers of all ways, merged. -/
def resT (P : Program) (rs : List ResultVar) (S : St) : Tr → Option AVal
  | .leaf e d => match e with
    | .exit _ => none
    | _ => match getRes P (S.ext d) rs with | some vs => some (one vs) | none => none
  | .node d b l r => match resT P rs (S.ext d) l with
    | some x => match resT P rs (S.ext d) r with
      | some y => some (mergeV b x y)
      | none => none
    | none => none

def undefs : Nat → List AVal
  | 0 => []
  | n + 1 => .raw undef :: undefs n

def roB : List (List AVal) → Bool → List Blk
  | [], _ => []
  | c :: r, b => ⟨c, b⟩ :: roB r b

def St.start (n : Nat) (args : List AVal) (bl : List (List AVal)) (wr : Bool) : St := ⟨args ++ undefs (Nat.sub n args.length), [], roB bl wr, []⟩

/-- What a function answers, where it writes nothing that it is shown. -/
noncomputable def evFn (P : Program) (Γ : List (Nat × Ctr)) (fuel : Nat) (fn : Func) (args : List AVal) (bl : List (List AVal)) : Option AVal :=
  match fn.body with
  | some c => match Nat.ble args.length fn.ntmps with
    | true => match ev P Γ fn.ntmps fuel c (St.start fn.ntmps args bl false) Dl.nil with
      | some t => match resT P fn.results.toList (St.start fn.ntmps args bl false) t with
        | some v => match v.flat with | true => some v | false => none
        | none => none
      | none => none
    | false => none
  | none => none

/-- The views at the end. -/
def endViews (S : St) : Nat → List (List AVal) → Option (List (List AVal))
  | _, [] => some []
  | j, c :: r => match S.cellsAt j 0 c.length with
    | some cs => match endViews S (j + 1) r with | some l => some (cs :: l) | none => none
    | none => none

def mergeLL (b : Bool) : List (List AVal) → List (List AVal) → Option (List (List AVal))
  | [], [] => some []
  | x :: xs, y :: ys => match Nat.beq x.length y.length with
    | true => match mergeLL b xs ys with | some l => some (mergeV.mergeL b x y :: l) | none => none
    | false => none
  | _, _ => none

def resW (P : Program) (rs : List ResultVar) (bl : List (List AVal)) (S : St) : Tr → Option (AVal × List (List AVal))
  | .leaf e d => match e with
    | .exit _ => none
    | _ => match getRes P (S.ext d) rs, endViews (S.ext d) 0 bl with
      | some vs, some l => some (one vs, l)
      | _, _ => none
  | .node d b l r => match resW P rs bl (S.ext d) l, resW P rs bl (S.ext d) r with
    | some (x, xs), some (y, ys) => match mergeLL b xs ys with
      | some l => some (mergeV b x y, l)
      | none => none
    | _, _ => none

def flatLL : List (List AVal) → Bool
  | [] => true
  | c :: r => match AVal.flat.flatL c with | true => flatLL r | false => false

/-- What a function answers, and what the views hold then. -/
noncomputable def evFnW (P : Program) (Γ : List (Nat × Ctr)) (fuel : Nat) (fn : Func) (args : List AVal) (bl : List (List AVal)) : Option (AVal × List (List AVal)) :=
  match fn.body with
  | some c => match Nat.ble args.length fn.ntmps with
    | true => match ev P Γ fn.ntmps fuel c (St.start fn.ntmps args bl true) Dl.nil with
      | some t => match resW P fn.results.toList bl (St.start fn.ntmps args bl true) t with
        | some (v, l) => match v.flat && flatLL l with | true => some (v, l) | false => none
        | none => none
      | none => none
    | false => none
  | none => none

end Go.Ab
