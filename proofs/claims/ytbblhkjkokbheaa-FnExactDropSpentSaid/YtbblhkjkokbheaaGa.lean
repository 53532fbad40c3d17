import Derived.WalkKit
import Derived.WalkLawsBesides
import Derived.Laws.StructEq
import Derived.ChangeKeysEq
import Derived.Deep.AppendSrc
import Derived.Deep.Upon
import Derived.Laws.MakeOwn
namespace Go.Ab
open Go

/-- A number of elements: told, or at least so many, or whatever. -/
inductive Num where
  | lit (n : Nat)
  | ge (lo n : Nat)
  | sym (n : Nat)

def Num.val : Num → Nat
  | .lit n => n
  | .ge _ n => n
  | .sym n => n

/-- Abstract values. -/
inductive AVal where
  | bad
  | bool (b : Bool)
  | sbool (b : Bool)
  | int (k : IntKind) (n : Int)
  | sint (k : IntKind) (n : Int)
  | cbool (c b : Bool)
  | cint (c : Bool) (k : IntKind) (n : Int)
  | flt (k : FloatKind) (b : Nat)
  | lint (k : IntKind) (lo : Nat) (n : Nat)
  | ptr (i o : Nat)
  | vptr (i e k o : Nat)
  | slice (i o len cap : Nat)
  | vec (i e a : Nat) (n : Num)
  | raw (v : Value)
  | fn (f : Fn) (xs ys : List AVal)
  | ifc (t : TypeId) (x : AVal)
  | agg (cs : List AVal)
  | tuple (vs : List AVal)

def nanW : FloatKind → Nat
  | .f32 => 0x7fc00000
  | .f64 => 0x7ff8000000000000

def isNaNW (k : FloatKind) (b : Nat) : Bool := (k.format.read b).isNaN

def fopImpl (op : BinOp) (k : FloatKind) (x y : Nat) : Nat := (floatBits op k x y).getD (nanW k)
theorem fop_ex : ∃ f, f = fopImpl := ⟨_, rfl⟩
noncomputable def fop : BinOp → FloatKind → Nat → Nat → Nat := Classical.choose fop_ex
theorem fop_eq : fop = fopImpl := Classical.choose_spec fop_ex

def fltImpl (k : FloatKind) (x y : Nat) : Bool := k.format.order x y == some .lt
theorem flt_ex : ∃ f, f = fltImpl := ⟨_, rfl⟩
noncomputable def fltB : FloatKind → Nat → Nat → Bool := Classical.choose flt_ex
theorem fltB_eq : fltB = fltImpl := Classical.choose_spec flt_ex

def feqImpl (k : FloatKind) (x y : Nat) : Bool := k.format.order x y == some .eq
theorem feq_ex : ∃ f, f = feqImpl := ⟨_, rfl⟩
noncomputable def feqB : FloatKind → Nat → Nat → Bool := Classical.choose feq_ex
theorem feqB_eq : feqB = feqImpl := Classical.choose_spec feq_ex

noncomputable def fleB (k : FloatKind) (x y : Nat) : Bool := fltB k x y || feqB k x y

def fminImpl (k : FloatKind) (x y : Nat) : Nat := match k.format.order x y with
  | none => nanW k | some .lt => x | some .gt => y | some .eq => if (k.decode x).neg then x else y
def fmaxImpl (k : FloatKind) (x y : Nat) : Nat := match k.format.order x y with
  | none => nanW k | some .lt => y | some .gt => x | some .eq => if (k.decode x).neg then y else x
theorem fmin_ex : ∃ f, f = fminImpl := ⟨_, rfl⟩
noncomputable def fmin : FloatKind → Nat → Nat → Nat := Classical.choose fmin_ex
theorem fmin_eq : fmin = fminImpl := Classical.choose_spec fmin_ex
theorem fmax_ex : ∃ f, f = fmaxImpl := ⟨_, rfl⟩
noncomputable def fmax : FloatKind → Nat → Nat → Nat := Classical.choose fmax_ex
theorem fmax_eq : fmax = fmaxImpl := Classical.choose_spec fmax_ex

/-- float64(x) of a float32. -/
def wideImpl (x : Nat) : Nat := (floatToFloatBits .f32 x .f64).getD (nanW .f64)
theorem wide_ex : ∃ f, f = wideImpl := ⟨_, rfl⟩
noncomputable def wide : Nat → Nat := Classical.choose wide_ex
theorem wide_eq : wide = wideImpl := Classical.choose_spec wide_ex

/-- The square root of a float64. -/
def sqrtImpl (x : Nat) : Nat := (FloatKind.f64.format.sqrt x).getD (nanW .f64)
theorem sqrtW_ex : ∃ f, f = sqrtImpl := ⟨_, rfl⟩
noncomputable def sqrtW : Nat → Nat := Classical.choose sqrtW_ex
theorem sqrtW_eq : sqrtW = sqrtImpl := Classical.choose_spec sqrtW_ex

/-- float32(x) of a float64. -/
def nrwImpl (x : Nat) : Nat := match FloatKind.f64.decode x with
  | .nan _ _ => nanW .f32
  | .infinity s => FloatKind.f32.encode (.infinity s)
  | .number s m e => FloatKind.f32.encode (.number s m e)
theorem nrw_ex : ∃ f, f = nrwImpl := ⟨_, rfl⟩
noncomputable def nrw : Nat → Nat := Classical.choose nrw_ex
theorem nrw_eq : nrw = nrwImpl := Classical.choose_spec nrw_ex
/-- It isn't a number too great. -/
def nrwOkImpl (x : Nat) : Bool := match FloatKind.f64.decode x with
  | .number s m e => !(FloatKind.f32.decode (FloatKind.f32.encode (.number s m e))).isInfinity
  | _ => true
theorem nrwOk_ex : ∃ f, f = nrwOkImpl := ⟨_, rfl⟩
noncomputable def nrwOk : Nat → Bool := Classical.choose nrwOk_ex
theorem nrwOk_eq : nrwOk = nrwOkImpl := Classical.choose_spec nrwOk_ex

/-- A float64 made whole. -/
def intgImpl (t : Ieee.Toward) (x : Nat) : Nat := match FloatKind.f64.decode x with
  | .nan _ _ => nanW .f64
  | .infinity s => FloatKind.f64.encode ((Ieee.Datum.infinity s).integral t)
  | .number s m e => FloatKind.f64.encode ((Ieee.Datum.number s m e).integral t)
theorem intg_ex : ∃ f, f = intgImpl := ⟨_, rfl⟩
noncomputable def intgW : Ieee.Toward → Nat → Nat := Classical.choose intg_ex
theorem intgW_eq : intgW = intgImpl := Classical.choose_spec intg_ex

/-- A float made an integer. -/
def f2iImpl (s : FloatKind) (x : Nat) : Int := match (s.decode x).toInt .zero with | some n => n | none => 0
theorem f2i_ex : ∃ f, f = f2iImpl := ⟨_, rfl⟩
noncomputable def f2i : FloatKind → Nat → Int := Classical.choose f2i_ex
theorem f2i_eq : f2i = f2iImpl := Classical.choose_spec f2i_ex
/-- It is an integer of the kind. -/
def f2iOkImpl (s : FloatKind) (k : IntKind) (x : Nat) : Bool := match (s.decode x).toInt .zero with
  | some n => decide (k.min ≤ n) && decide (n ≤ k.max)
  | none => false
theorem f2iOk_ex : ∃ f, f = f2iOkImpl := ⟨_, rfl⟩
noncomputable def f2iOk : FloatKind → IntKind → Nat → Bool := Classical.choose f2iOk_ex
theorem f2iOk_eq : f2iOk = f2iOkImpl := Classical.choose_spec f2iOk_ex

theorem ofInt_ex : ∃ f, f = floatOfInt := ⟨_, rfl⟩
noncomputable def ofInt : FloatKind → Int → Nat := Classical.choose ofInt_ex
theorem ofInt_eq : ofInt = floatOfInt := Classical.choose_spec ofInt_ex

theorem nanB_ex : ∃ f, f = isNaNW := ⟨_, rfl⟩
noncomputable def nanB : FloatKind → Nat → Bool := Classical.choose nanB_ex
theorem nanB_eq : nanB = isNaNW := Classical.choose_spec nanB_ex

noncomputable def fneg (k : FloatKind) (b : Nat) : Nat := Op.negFloat k b

/-- What a cell of a row is. -/
inductive CK where
  | f32 | int (k : IntKind) | bool

/-- A row of elements. -/
structure Vc where
  sh : List CK
  n : Num
  fd : Nat → Nat → Nat
  gd : Nat → Nat → Int
  bd : Nat → Nat → Bool
  wr : Bool

def lenL {α : Type} : List α → Nat
  | [] => 0
  | _ :: r => Nat.succ (lenL r)

def Vc.mkA (v : Vc) (k o : Nat) : CK → AVal
  | .f32 => .flt .f32 (v.fd k o)
  | .int t => .sint t (v.gd k o)
  | .bool => .sbool (v.bd k o)

def nthC (o : Nat) : List CK → Option CK
  | [] => none
  | c :: r => match o with | 0 => some c | o + 1 => nthC o r

def Vc.atA (v : Vc) (k o : Nat) : AVal := match nthC o v.sh with | some c => v.mkA k o c | none => .bad

structure Blk where
  cells : List AVal
  wr : Bool
  vc : Option Vc

/-- The full abstract state. -/
structure St where
  fr : List AVal
  ovs : List (List (Nat × AVal))
  hp : List Blk
  hvs : List (List ((Nat × Nat) × AVal))
  vvs : List (List (Nat × Vc))
  dfs : List (AVal × List AVal)

structure Dl where
  ov : List (Nat × AVal)
  hv : List ((Nat × Nat) × AVal)
  vv : List (Nat × Vc)
  nw : List Blk
  df : List (AVal × List AVal)
  nd : Bool

def Dl.nil : Dl := ⟨[], [], [], [], [], true⟩

/-- One slot more. -/
def Dl.one (t : Nat) (v : AVal) : Dl := ⟨[(t, v)], [], [], [], [], true⟩

def St.ext (S : St) (d : Dl) : St := ⟨S.fr, d.ov :: S.ovs, S.hp ++ d.nw, d.hv :: S.hvs, d.vv :: S.vvs, d.df ++ S.dfs⟩

def look1 (t : Nat) : List (Nat × AVal) → Option AVal
  | [] => none
  | (k, v) :: r => match Nat.beq t k with | true => some v | false => look1 t r

def lookL (t : Nat) : List (List (Nat × AVal)) → Option AVal
  | [] => none
  | l :: r => match look1 t l with | some v => some v | none => lookL t r

def nth (t : Nat) : List AVal → AVal
  | [] => .bad
  | v :: r => match t with | 0 => v | t + 1 => nth t r

def St.get (S : St) (t : Nat) : AVal := match lookL t S.ovs with | some v => v | none => nth t S.fr

def hlook1 (i o : Nat) : List ((Nat × Nat) × AVal) → Option AVal
  | [] => none
  | (k, v) :: r => match Nat.beq i k.1 && Nat.beq o k.2 with | true => some v | false => hlook1 i o r

def hlookL (i o : Nat) : List (List ((Nat × Nat) × AVal)) → Option AVal
  | [] => none
  | l :: r => match hlook1 i o l with | some v => some v | none => hlookL i o r

def vlook1 (i : Nat) : List (Nat × Vc) → Option Vc
  | [] => none
  | (k, v) :: r => match Nat.beq i k with | true => some v | false => vlook1 i r

def vlookL (i : Nat) : List (List (Nat × Vc)) → Option Vc
  | [] => none
  | l :: r => match vlook1 i l with | some v => some v | none => vlookL i r

def nthB (t : Nat) : List Blk → Blk
  | [] => ⟨[], false, none⟩
  | v :: r => match t with | 0 => v | t + 1 => nthB t r

def St.blk (S : St) (i : Nat) : Blk := nthB i S.hp

def St.cell (S : St) (i o : Nat) : Option AVal :=
  match Nat.ble (o + 1) (S.blk i).cells.length with
  | true => match hlookL i o S.hvs with | some v => some v | none => some (nth o (S.blk i).cells)
  | false => none

/-- The row of a block. -/
def St.vec (S : St) (i : Nat) : Option Vc :=
  match (S.blk i).cells, (S.blk i).vc with
  | [], some v => match vlookL i S.vvs with | some u => some u | none => some v
  | _, _ => none

/-- Something is known of the block. -/
def St.live (S : St) (i : Nat) : Bool :=
  match (S.blk i).cells with
  | [] => match S.vec i with | some v => (match v.sh with | [] => false | _ :: _ => true) | none => false
  | _ :: _ => true

def St.cellsAt (S : St) (i : Nat) : Nat → Nat → Option (List AVal)
  | _, 0 => some []
  | o, n + 1 => match S.cell i o with
    | some v => match S.cellsAt i (o + 1) n with | some r => some (v :: r) | none => none
    | none => none

/-- Cells of an element. -/
def Vc.cellsAt (v : Vc) (k : Nat) : Nat → Nat → Option (List AVal)
  | _, 0 => some []
  | o, n + 1 => match nthC o v.sh with
    | some c => match v.cellsAt k (o + 1) n with | some r => some (v.mkA k o c :: r) | none => none
    | none => none

def wordTop : FloatKind → Nat
  | .f32 => 4294967296
  | .f64 => 18446744073709551616

def absV : Value → AVal
  | .bool b => .bool b
  | .int k n => .int k n
  | .float k b => match Nat.ble (b + 1) (wordTop k) with | true => .flt k b | false => .raw (.float k b)
  | v => .raw v

def absC (cs : List Value) : List AVal := cs.map absV

def opd (S : St) : Operand → AVal
  | .tmp t => S.get t
  | .const v => match v with
    | .agg cs => .agg (absC cs.toList)
    | v => absV v
  | .global g => .raw (.pointer (some ⟨g, 0, none⟩))
  | .func f => .fn (.func f) [] []

def AVal.cells : AVal → List AVal
  | .agg cs => cs
  | v => [v]

def natCond (b : Bool) (x y : Nat) : Nat := cond b x y

def sameFn : Fn → Fn → Bool
  | .func f, .func g => Nat.beq f g
  | _, _ => false

/-- Surely the same numbers. -/
def sameNum (a a' : Nat) : Num → Num → Bool
  | .lit n, .lit n' => Nat.beq a a' && Nat.beq n n'
  | _, _ => false

/-- Merge two values: the first where 'b' holds. -/
def mergeV (b : Bool) : AVal → AVal → AVal
  | .bool x, .bool y => .sbool (cond b x y)
  | .bool x, .sbool y => .sbool (cond b x y)
  | .sbool x, .bool y => .sbool (cond b x y)
  | .sbool x, .sbool y => .sbool (cond b x y)
  | .bool x, .cbool c y => .cbool (cond b true c) (cond b x y)
  | .sbool x, .cbool c y => .cbool (cond b true c) (cond b x y)
  | .cbool c x, .bool y => .cbool (cond b c true) (cond b x y)
  | .cbool c x, .sbool y => .cbool (cond b c true) (cond b x y)
  | .cbool c x, .cbool d y => .cbool (cond b c d) (cond b x y)
  | .int k x, .int k' y => match decide (k = k') with | true => (match decide (x = y) with | true => .int k x | false => .sint k (cond b x y)) | false => .bad
  | .int k x, .sint k' y => match decide (k = k') with | true => .sint k (cond b x y) | false => .bad
  | .sint k x, .int k' y => match decide (k = k') with | true => .sint k (cond b x y) | false => .bad
  | .sint k x, .sint k' y => match decide (k = k') with | true => .sint k (cond b x y) | false => .bad
  | .int k x, .cint c k' y => match decide (k = k') with | true => .cint (cond b true c) k (cond b x y) | false => .bad
  | .sint k x, .cint c k' y => match decide (k = k') with | true => .cint (cond b true c) k (cond b x y) | false => .bad
  | .cint c k x, .int k' y => match decide (k = k') with | true => .cint (cond b c true) k (cond b x y) | false => .bad
  | .cint c k x, .sint k' y => match decide (k = k') with | true => .cint (cond b c true) k (cond b x y) | false => .bad
  | .cint c k x, .cint d k' y => match decide (k = k') with | true => .cint (cond b c d) k (cond b x y) | false => .bad
  | .flt k x, .flt k' y => match decide (k = k') with | true => .flt k (cond b x y) | false => .bad
  | .ptr i o, .ptr i' o' => match Nat.beq i i' && Nat.beq o o' with | true => .ptr i o | false => .bad
  | .slice i o l c, .slice i' o' l' c' => match Nat.beq i i' && Nat.beq o o' && Nat.beq l l' && Nat.beq c c' with | true => .slice i o l c | false => .bad
  | .lint k _ x, .lint k' _ y => match decide (k = k') with | true => .sint k (cond b (Int.ofNat x) (Int.ofNat y)) | false => .bad
  | .lint k _ x, .int k' y => match decide (k = k') with | true => .sint k (cond b (Int.ofNat x) y) | false => .bad
  | .lint k _ x, .sint k' y => match decide (k = k') with | true => .sint k (cond b (Int.ofNat x) y) | false => .bad
  | .int k x, .lint k' _ y => match decide (k = k') with | true => .sint k (cond b x (Int.ofNat y)) | false => .bad
  | .sint k x, .lint k' _ y => match decide (k = k') with | true => .sint k (cond b x (Int.ofNat y)) | false => .bad
  | .vec i e a n, .vec i' e' a' n' => match Nat.beq i i' && Nat.beq e e' with
    | true => match sameNum a a' n n' with | true => .vec i e a n | false => .bad
    | false => .bad
  | .fn f xs ys, .fn f' xs' ys' => match sameFn f f' && Nat.beq xs.length xs'.length && Nat.beq ys.length ys'.length with
    | true => .fn f (mergeL b xs xs') (mergeL b ys ys')
    | false => .bad
  | .ifc t x, .ifc t' y => match Nat.beq t t' with | true => .ifc t (mergeV b x y) | false => .bad
  | .agg xs, .agg ys => match Nat.beq xs.length ys.length with | true => .agg (mergeL b xs ys) | false => .bad
  | .tuple xs, .tuple ys => match Nat.beq xs.length ys.length with | true => .tuple (mergeL b xs ys) | false => .bad
  | _, _ => .bad
where
  mergeL (b : Bool) : List AVal → List AVal → List AVal
  | x :: xs, y :: ys => mergeV b x y :: mergeL b xs ys
  | _, _ => []

end Go.Ab

namespace Go.Ab
open Go

/-! Types, off the program's own tables. -/
inductive Kd where
  | int (k : IntKind) | flt (k : FloatKind) | bool | str
  | arr (len elem : Nat) | struct (fs : List Field) | slice (elem : Nat) | other

def kd (P : Program) (t : TypeId) : Option Kd :=
  match P.underlying t with
  | some (.int k) => some (.int k)
  | some (.float k) => some (.flt k)
  | some .bool => some .bool
  | some .string => some .str
  | some (.array n e) => some (.arr n e)
  | some (.struct fs) => some (.struct fs.toList)
  | some (.slice e) => some (.slice e)
  | some _ => some .other
  | none => none

def Kd.isAgg : Kd → Bool
  | .arr _ _ => true
  | .struct _ => true
  | _ => false

def tsize (P : Program) (t : TypeId) : Option Nat := match P.info? t with | some i => some i.size | none => none

def tzero (P : Program) (t : TypeId) : Option Value := match P.info? t with | some i => i.zero | none => none

/-- A contract: (x: it has no body) from the arguments (pointers and slices lead to the views 0, 1, ..) and what the views hold, the answer and what the views hold then (none: as before). -/
inductive Xk where
  | f32bits | f64bits | f32from | f64from | sqrt
  | intg (name : String) (t : Ieee.Toward)

structure Out where
  v : AVal
  hv : List ((Nat × Nat) × AVal)
  vv : List (Nat × Vc)
  nw : List Blk
  nd : Bool
  pn : Option (Bool × AVal)

def pureO (v : AVal) : Option Out := some ⟨v, [], [], [], true, none⟩
/-- A value, where a condition is met. -/
def needO (c : Bool) (v : AVal) : Option Out := some ⟨v, [], [], [], c, none⟩

structure Ctr where
  fn : List AVal → St → Option Out
  x : Option Xk := none

/-- A word off a number. -/
def wordOf (k : FloatKind) (c : Bool) (n : Int) : Option (Bool × AVal) := some (c && Nat.ble (n.toNat + 1) (wordTop k), .flt k n.toNat)

/-- Functions without a body: what they ask, what they answer. -/
noncomputable def evExt (k : Xk) (args : List AVal) : Option (Bool × AVal) :=
  match k, args with
  | .f32bits, [.flt .f32 b] => some (true, .cint (!nanB .f32 b) .u32 (Int.ofNat b))
  | .f64bits, [.flt .f64 b] => some (true, .cint (!nanB .f64 b) .u64 (Int.ofNat b))
  | .f32from, [.int .u32 n] => match Nat.ble (n.toNat + 1) (wordTop .f32) with | true => some (true, .flt .f32 n.toNat) | false => none
  | .f64from, [.int .u64 n] => match Nat.ble (n.toNat + 1) (wordTop .f64) with | true => some (true, .flt .f64 n.toNat) | false => none
  | .f32from, [.cint c .u32 n] => wordOf .f32 c n
  | .f32from, [.sint .u32 n] => wordOf .f32 true n
  | .f64from, [.cint c .u64 n] => wordOf .f64 c n
  | .f64from, [.sint .u64 n] => wordOf .f64 true n
  | .sqrt, [.flt .f64 b] => some (true, .flt .f64 (sqrtW b))
  | .intg _ t, [.flt .f64 b] => some (true, .flt .f64 (intgW t b))
  | _, _ => none

def lookC (f : Nat) : List (Nat × Ctr) → Option Ctr
  | [] => none
  | (g, c) :: r => match Nat.beq f g with | true => some c | false => lookC f r

/-- No pointer of the call's own in it. -/
def AVal.flat : AVal → Bool
  | .bad => false
  | .ptr _ _ => false
  | .vptr _ _ _ _ => false
  | .slice _ _ _ _ => false
  | .vec _ _ _ _ => false
  | .fn _ xs ys => match flatL xs with | true => flatL ys | false => false
  | .ifc _ x => x.flat
  | .agg cs => flatL cs
  | .tuple cs => flatL cs
  | _ => true
where flatL : List AVal → Bool
  | [] => true
  | c :: r => match c.flat with | true => flatL r | false => false

/-- Only what was there below a number of blocks. -/
def AVal.under (n : Nat) : AVal → Bool
  | .bad => false
  | .ptr i _ => Nat.ble (i + 1) n
  | .vptr i _ _ _ => Nat.ble (i + 1) n
  | .slice i _ _ _ => Nat.ble (i + 1) n
  | .vec i _ _ _ => Nat.ble (i + 1) n
  | .fn _ xs ys => match underL n xs with | true => underL n ys | false => false
  | .ifc _ x => x.under n
  | .agg cs => underL n cs
  | .tuple cs => underL n cs
  | _ => true
where underL (n : Nat) : List AVal → Bool
  | [] => true
  | c :: r => match c.under n with | true => underL n r | false => false

/-- Sure to be the value of one cell. -/
def AVal.oneA : AVal → Bool
  | .bad => false
  | .agg _ => false
  | .tuple _ => false
  | .raw v => v.oneCell'
  | _ => true

def allOne : List AVal → Bool
  | [] => true
  | v :: r => match v.oneA with | true => allOne r | false => false

def storeL (i : Nat) : Nat → List AVal → List ((Nat × Nat) × AVal)
  | _, [] => []
  | o, v :: r => ((i, o), v) :: storeL i (o + 1) r

def wrapK (k : IntKind) (n : Int) : Int := k.wrap n

def arith (op : BinOp) (k : IntKind) (x y : Int) : Option Int :=
  match op with
  | .add => some (k.wrap (x + y))
  | .sub => some (k.wrap (x - y))
  | .mul => some (k.wrap (x * y))
  | .and => some (k.wrap (BitVec.ofInt k.bits x &&& BitVec.ofInt k.bits y).toNat)
  | .or => some (k.wrap (BitVec.ofInt k.bits x ||| BitVec.ofInt k.bits y).toNat)
  | .xor => some (k.wrap (BitVec.ofInt k.bits x ^^^ BitVec.ofInt k.bits y).toNat)
  | .andNot => some (k.wrap (BitVec.ofInt k.bits x &&& ~~~ BitVec.ofInt k.bits y).toNat)
  | .quo => (match y with | .ofNat 0 => none | .ofNat (m + 1) => some (k.wrap (x.tdiv (Int.ofNat (m + 1)))) | _ => none)
  | .rem => (match y with | .ofNat 0 => none | .ofNat (m + 1) => some (x.tmod (Int.ofNat (m + 1))) | _ => none)
  | .shr => (match y with | .ofNat m => some (x.fdiv (2 ^ Nat.min m k.bits)) | _ => none)
  | _ => none

def icmp (op : BinOp) (x y : Int) : Option Bool :=
  match op with
  | .eql => some (x == y)
  | .neq => some (x != y)
  | .lss => some (decide (x < y))
  | .leq => some (decide (x ≤ y))
  | .gtr => some (decide (x > y))
  | .geq => some (decide (x ≥ y))
  | _ => none

noncomputable def fcmp (op : BinOp) (k : FloatKind) (x y : Nat) : Option Bool :=
  match op with
  | .eql => some (feqB k x y)
  | .neq => some (!feqB k x y)
  | .lss => some (fltB k x y)
  | .leq => some (fleB k x y)
  | .gtr => some (fltB k y x)
  | .geq => some (fleB k y x)
  | _ => none

def isFop (op : BinOp) : Bool := match op with | .add | .sub | .mul | .quo => true | _ => false

def isBoolT (P : Program) (t : TypeId) : Bool := match kd P t with | some .bool => true | _ => false

def beqV (op : BinOp) (a b : Bool) : Option Bool := match op with | .eql => some (a == b) | .neq => some (a != b) | _ => none

/-- Where both are as they are told, so is the answer. -/
def evC (op : BinOp) (c d : Bool) (k : IntKind) (a b : Int) : Option AVal :=
  match op with
  | .quo => none
  | .rem => none
  | .shr => none
  | op => match arith op k a b with
    | some n => some (.cint (c && d) k n)
    | none => match icmp op a b with
      | some e => some (.cbool (c && d) e)
      | none => none

noncomputable def evBin0 (P : Program) (t : TypeId) (op : BinOp) (x y : AVal) : Option AVal :=
  match x, y with
  | .int k a, .int k' b => match decide (k = k') with
    | true => match arith op k a b with | some n => some (.int k n) | none => match icmp op a b with | some c => some (.bool c) | none => none
    | false => none
  | .sint k a, .int k' b => match decide (k = k') with
    | true => match arith op k a b with | some n => some (.sint k n) | none => match icmp op a b with | some c => some (.sbool c) | none => none
    | false => none
  | .int k a, .sint k' b => match decide (k = k') with
    | true => match arith op k a b with | some n => some (.sint k n) | none => match icmp op a b with | some c => some (.sbool c) | none => none
    | false => none
  | .sint k a, .sint k' b => match decide (k = k') with
    | true => match arith op k a b with | some n => some (.sint k n) | none => match icmp op a b with | some c => some (.sbool c) | none => none
    | false => none
  | .cint c k a, .int k' b => match decide (k = k') with
    | true => evC op c true k a b
    | false => none
  | .cint c k a, .sint k' b => match decide (k = k') with
    | true => evC op c true k a b
    | false => none
  | .int k a, .cint d k' b => match decide (k = k') with
    | true => evC op true d k a b
    | false => none
  | .sint k a, .cint d k' b => match decide (k = k') with
    | true => evC op true d k a b
    | false => none
  | .cint c k a, .cint d k' b => match decide (k = k') with
    | true => evC op c d k a b
    | false => none
  | .flt k a, .flt k' b => match decide (k = k') with
    | true => match isFop op with
      | true => some (.flt k (fop op k a b))
      | false => match fcmp op k a b with | some c => some (.sbool c) | none => none
    | false => none
  | .bool a, .bool b => match isBoolT P t with
    | true => match beqV op a b with | some c => some (.bool c) | none => none
    | false => none
  | .sbool a, .bool b => match isBoolT P t with
    | true => match beqV op a b with | some c => some (.sbool c) | none => none
    | false => none
  | .bool a, .sbool b => match isBoolT P t with
    | true => match beqV op a b with | some c => some (.sbool c) | none => none
    | false => none
  | .sbool a, .sbool b => match isBoolT P t with
    | true => match beqV op a b with | some c => some (.sbool c) | none => none
    | false => none
  | _, _ => none

def unlint : AVal → AVal
  | .lint k _ n => .sint k (Int.ofNat n)
  | v => v

/-- A number of which a lower bound is known, against one that is told. -/
def cmpLint (op : BinOp) : AVal → AVal → Option Bool
  | .lint k lo _, .int k' c => match decide (k = k') with
    | true => match op with
      | .gtr => match decide (c < Int.ofNat lo) with | true => some true | false => none
      | .geq => match decide (c ≤ Int.ofNat lo) with | true => some true | false => none
      | .lss => match decide (c ≤ Int.ofNat lo) with | true => some false | false => none
      | .leq => match decide (c < Int.ofNat lo) with | true => some false | false => none
      | .eql => match decide (c < Int.ofNat lo) with | true => some false | false => none
      | .neq => match decide (c < Int.ofNat lo) with | true => some true | false => none
      | _ => none
    | false => none
  | .int k' c, .lint k lo _ => match decide (k = k') with
    | true => match op with
      | .lss => match decide (c < Int.ofNat lo) with | true => some true | false => none
      | .leq => match decide (c ≤ Int.ofNat lo) with | true => some true | false => none
      | .gtr => match decide (c ≤ Int.ofNat lo) with | true => some false | false => none
      | .geq => match decide (c < Int.ofNat lo) with | true => some false | false => none
      | .eql => match decide (c < Int.ofNat lo) with | true => some false | false => none
      | .neq => match decide (c < Int.ofNat lo) with | true => some true | false => none
      | _ => none
    | false => none
  | _, _ => none

noncomputable def evBin (P : Program) (t : TypeId) (op : BinOp) (x y : AVal) : Option AVal :=
  match cmpLint op x y with
  | some b => some (.bool b)
  | none => evBin0 P t op (unlint x) (unlint y)

/-! Arrays and structs of numbers, compared as wholes. -/
def intOf : AVal → Option (IntKind × Int)
  | .int k n => some (k, n)
  | .sint k n => some (k, n)
  | _ => none
def boolOf : AVal → Option Bool
  | .bool b => some b
  | .sbool b => some b
  | _ => none

noncomputable def cellEq (P : Program) (t : TypeId) (x y : AVal) : Option Bool :=
  match kd P t, tsize P t with
  | some (.int _), some 1 => match intOf x, intOf y with
    | some (k, a), some (k', b) => match decide (k = k') with | true => some (a == b) | false => none
    | _, _ => none
  | some .bool, some 1 => match boolOf x, boolOf y with | some a, some b => some (a == b) | _, _ => none
  | some (.flt _), some 1 => match x, y with
    | .flt k a, .flt k' b => match decide (k = k') with | true => some (feqB k a b) | false => none
    | _, _ => none
  | _, _ => none

noncomputable def itemsEq (P : Program) (e : TypeId) : List AVal → List AVal → Option Bool
  | [], [] => some true
  | x :: xs, y :: ys => match cellEq P e x y, itemsEq P e xs ys with
    | some a, some b => some (cond a b false)
    | _, _ => none
  | _, _ => none

noncomputable def fieldsEq (P : Program) : Nat → List Field → List AVal → List AVal → Option Bool
  | _, [], _, _ => some true
  | o, f :: fs, x :: xs, y :: ys => match decide (f.name ≠ "_") && Nat.beq f.offset o with
    | true => match cellEq P f.type x y, fieldsEq P (o + 1) fs xs ys with
      | some a, some b => some (cond a b false)
      | _, _ => none
    | false => none
  | _, _, _, _ => none

noncomputable def aggEq (P : Program) (t : TypeId) (xs ys : List AVal) : Option Bool :=
  match P.eqGuardType P.depth t, kd P t with
  | false, some (.arr n e) => match xs with
    | [] => none
    | x :: r => match Nat.beq (x :: r).length n with | true => itemsEq P e (x :: r) ys | false => none
  | false, some (.struct fs) => match P.stoodInHeld t with | false => fieldsEq P 0 fs xs ys | true => none
  | _, _ => none

noncomputable def evAgg (P : Program) (t : TypeId) (op : BinOp) (x y : AVal) : Option AVal :=
  match op, x, y with
  | .eql, .agg xs, .agg ys => match aggEq P t xs ys with | some b => some (.sbool b) | none => none
  | .neq, .agg xs, .agg ys => match aggEq P t xs ys with | some b => some (.sbool !b) | none => none
  | _, _, _ => none

/-- A row that has an element is not nil. -/
def evNilc (P : Program) (t : TypeId) (op : BinOp) (x y : AVal) : Option (Bool × AVal) :=
  match x, y with
  | .vec _ _ _ n, .raw v => match v, kd P t, op with
    | .slice none 0 0, some (.slice _), .eql => some (Nat.ble 1 n.val, .bool false)
    | .slice none 0 0, some (.slice _), .neq => some (Nat.ble 1 n.val, .bool true)
    | _, _, _ => none
  | _, _ => none

noncomputable def evUn (op : UnOp) (x : AVal) : Option AVal :=
  match op, x with
  | .not, .bool b => some (.bool !b)
  | .not, .sbool b => some (.sbool !b)
  | .not, .cbool c b => some (.cbool c !b)
  | .neg, .int k n => some (.int k (k.wrap (0 - n)))
  | .neg, .sint k n => some (.sint k (k.wrap (0 - n)))
  | .neg, .flt k b => some (.flt k (fneg k b))
  | _, _ => none

noncomputable def evConv0 (P : Program) (src dst : TypeId) (x : AVal) : Option AVal :=
  match kd P src with
  | none => none
  | some _ => match kd P dst, x with
  | some (.int k), .int _ n => some (.int k (k.wrap n))
  | some (.int k), .sint _ n => some (.sint k (k.wrap n))
  | some (.int k), .cint c _ n => some (.cint c k (k.wrap n))
  | some (.flt k), .int _ n => some (.flt k (ofInt k n))
  | some (.flt k), .sint _ n => some (.flt k (ofInt k n))
  | some (.flt .f64), .flt .f32 b => some (.flt .f64 (wide b))
  | some (.flt .f32), .flt .f32 b => some (.flt .f32 b)
  | some (.flt .f64), .flt .f64 b => some (.flt .f64 b)
  | _, _ => none

noncomputable def evConv (P : Program) (src dst : TypeId) (x : AVal) : Option AVal := evConv0 P src dst (unlint x)

/-- A float64 made narrow, a float made an integer. -/
noncomputable def evNrw (P : Program) (src dst : TypeId) (x : AVal) : Option (Bool × AVal) :=
  match kd P src with
  | none => none
  | some _ => match kd P dst, x with
    | some (.flt .f32), .flt .f64 b => some (nrwOk b, .flt .f32 (nrw b))
    | some (.int k), .flt s b => some (f2iOk s k b, .sint k (f2i s b))
    | _, _ => none

def fieldOf (fs : List Field) (n : Nat) : Option Field := match fs, n with
  | [], _ => none
  | f :: _, 0 => some f
  | _ :: r, n + 1 => fieldOf r n

def natOf : Int → Option Nat
  | .ofNat n => some n
  | .negSucc _ => none

def cutL : List AVal → Nat → Nat → List AVal
  | l, o, n => (l.drop o).take n

/-- A part of an aggregate. -/
def partV (P : Program) (t : TypeId) (cs : List AVal) (o : Nat) : Option AVal :=
  match kd P t, tsize P t with
  | some k, some n => match k.isAgg with
    | true => match Nat.ble (o + n) cs.length with | true => some (.agg (cutL cs o n)) | false => none
    | false => match Nat.ble (o + 1) cs.length with | true => some (nth o cs) | false => none
  | _, _ => none

def idxOf (i : AVal) (len : Nat) : Option Nat :=
  match i with
  | .int _ n => match natOf n with
    | some m => match Nat.ble (m + 1) len with | true => some m | false => none
    | none => none
  | _ => none

def fillA (cells : List AVal) (o : Nat) : List AVal → List AVal
  | [] => cells
  | v :: r => fillA (cells.set o v) (o + 1) r

/-- The cells of a value that is sure to be one. -/
def cellsO : AVal → Option (List AVal)
  | .tuple _ => none
  | .bad => none
  | .raw v => match v.oneCell' with | true => some [.raw v] | false => none
  | .agg cs => some cs
  | v => some [v]

def plcs (P : Program) : List Field → Option (List (Nat × Nat))
  | [] => some []
  | f :: r => match tsize P f.type with
    | some n => match plcs P r with | some l => some ((f.offset, n) :: l) | none => none
    | none => none

def nthP (t : Nat) : List (Nat × Nat) → Option (Nat × Nat)
  | [] => none
  | v :: r => match t with | 0 => some v | t + 1 => nthP t r

def fillG (pl : Nat → Option (Nat × Nat)) (S : St) : List AVal → List (Nat × Operand) → Option (List AVal)
  | cells, [] => some cells
  | cells, (j, x) :: r => match pl j with
    | none => none
    | some (off, sz) => match cellsO (opd S x) with
      | some v => match Nat.beq v.length sz && Nat.ble (off + v.length) cells.length with
        | true => fillG pl S (fillA cells off v) r
        | false => none
      | none => none

def argsOf (S : St) : List Operand → List AVal
  | [] => []
  | x :: r => opd S x :: argsOf S r

noncomputable def minmax (mx : Bool) : List AVal → Option AVal
  | [.flt k a, .flt k' b] => match decide (k = k') with
    | true => match mx with
      | true => some (.flt k (fmax k a b))
      | false => some (.flt k (fmin k a b))
    | false => none
  | [x, y] => match intOf x, intOf y with
    | some (k, a), some (k', b) => match decide (k = k') with
      | true => match mx with
        | true => some (.sint k (cond (decide (a < b)) b a))
        | false => some (.sint k (cond (decide (b < a)) b a))
      | false => none
    | _, _ => none
  | _ => none

/-! Rows. -/
def wF : AVal → Nat | .flt _ b => b | _ => 0
def wG : AVal → Int | .int _ n => n | .sint _ n => n | .lint _ _ n => Int.ofNat n | _ => 0
def wB : AVal → Bool | .bool b => b | .sbool b => b | _ => false

def fits : CK → AVal → Bool
  | .f32, .flt .f32 _ => true
  | .int t, .int k _ => decide (t = k)
  | .int t, .sint k _ => decide (t = k)
  | .int t, .lint k _ _ => decide (t = k)
  | .bool, .bool _ => true
  | .bool, .sbool _ => true
  | _, _ => false

def fitsL (sh : List CK) : Nat → List AVal → Bool
  | _, [] => true
  | o, v :: r => match nthC o sh with
    | some c => match fits c v with | true => fitsL sh (o + 1) r | false => false
    | none => false

def inSeg (k o l j q : Nat) : Bool := Nat.beq j k && (Nat.ble o q && Nat.ble (q + 1) (o + l))

/-- Cells of one element written. -/
def Vc.put (v : Vc) (k o : Nat) (cs : List AVal) : Vc :=
  ⟨v.sh, v.n, fun j q => cond (inSeg k o (lenL cs) j q) (wF (nth (q - o) cs)) (v.fd j q), fun j q => cond (inSeg k o (lenL cs) j q) (wG (nth (q - o) cs)) (v.gd j q),
   fun j q => cond (inSeg k o (lenL cs) j q) (wB (nth (q - o) cs)) (v.bd j q), v.wr⟩

def ckOf : AVal → Option CK
  | .flt .f32 _ => some .f32
  | .int k _ => some (.int k)
  | .bool _ => some .bool
  | _ => none

def shOf : List AVal → Option (List CK)
  | [] => some []
  | v :: r => match ckOf v, shOf r with
    | some c, some l => some (c :: l)
    | _, _ => none

/-- The shape of a type's elements, and what they are at the start. -/
def elemOf (P : Program) (e : TypeId) : Option (List CK × List AVal) :=
  match tzero P e, tsize P e with
  | some z, some n => match shOf (absC z.cells.toList) with
    | some sh => match Nat.beq (lenL sh) n && Nat.ble 1 n with
      | true => some (sh, absC z.cells.toList)
      | false => none
    | none => none
  | _, _ => none

def tbytes (P : Program) (t : TypeId) : Option Nat := match P.info? t with | some i => some i.bytes | none => none

/-- Elements that are all alike. -/
def Vc.all (sh : List CK) (n : Num) (z : List AVal) : Vc := ⟨sh, n, fun _ q => wF (nth q z), fun _ q => wG (nth q z), fun _ q => wB (nth q z), true⟩

def addNum : Num → Num → Num
  | .lit n, .lit m => .lit (Nat.add n m)
  | .ge lo n, .lit m => .ge (Nat.add lo m) (Nat.add n m)
  | .lit n, .ge lo m => .ge (Nat.add n lo) (Nat.add n m)
  | a, b => .sym (Nat.add a.val b.val)

/-- A length, and what it asks. -/
def numOf : AVal → Option (Num × Bool)
  | .int .i64 z => match natOf z with | some n => some (.lit n, true) | none => none
  | .lint .i64 lo n => some (.ge lo n, true)
  | .sint .i64 z => some (.sym z.toNat, decide (0 ≤ z))
  | _ => none

def lenA : Num → AVal
  | .lit n => .int .i64 (Int.ofNat n)
  | .ge lo n => .lint .i64 lo n
  | .sym n => .sint .i64 (Int.ofNat n)

def sameOpd : Operand → Operand → Bool
  | .tmp t, .tmp u => Nat.beq t u
  | .const (.int k n), .const (.int k' n') => decide (k = k') && decide (n = n')
  | _, _ => false

/-- One row behind the other. -/
def Vc.join (sh : List CK) (n : Num) (fa : Nat) (v : Option Vc) (m : Num) (fb : Nat) (u : Vc) : Vc :=
  ⟨sh, addNum n m,
   match v with | some v => fun j q => cond (Nat.ble (j + 1) n.val) (v.fd (fa + j) q) (u.fd (fb + (j - n.val)) q) | none => fun j q => u.fd (fb + (j - n.val)) q,
   match v with | some v => fun j q => cond (Nat.ble (j + 1) n.val) (v.gd (fa + j) q) (u.gd (fb + (j - n.val)) q) | none => fun j q => u.gd (fb + (j - n.val)) q,
   match v with | some v => fun j q => cond (Nat.ble (j + 1) n.val) (v.bd (fa + j) q) (u.bd (fb + (j - n.val)) q) | none => fun j q => u.bd (fb + (j - n.val)) q, true⟩

/-- A row off told cells. -/
def Vc.ofCells (sh : List CK) (l : Nat) (cs : List AVal) : Vc :=
  ⟨sh, .lit l, fun j q => wF (nth (Nat.add (Nat.mul j (lenL sh)) q) cs), fun j q => wG (nth (Nat.add (Nat.mul j (lenL sh)) q) cs), fun j q => wB (nth (Nat.add (Nat.mul j (lenL sh)) q) cs), false⟩

def Vc.none (sh : List CK) : Vc := ⟨sh, .lit 0, fun _ _ => 0, fun _ _ => 0, fun _ _ => false, false⟩

def eqCK : CK → CK → Bool
  | .f32, .f32 => true
  | .int k, .int k' => decide (k = k')
  | .bool, .bool => true
  | _, _ => false

def eqSh : List CK → List CK → Bool
  | [], [] => true
  | c :: r, d :: s => match eqCK c d with | true => eqSh r s | false => false
  | _, _ => false

/-- Cells of elements one behind the other fit the shape. -/
def fitsAll (sh : List CK) : Nat → List AVal → Bool
  | 0, cs => match cs with | [] => true | _ => false
  | n + 1, cs => fitsL sh 0 (cs.take (lenL sh)) && fitsAll sh n (cs.drop (lenL sh))

/-- The row that is appended: how many, where it begins, the row. -/
def srcOf (S : St) (sh : List CK) : AVal → Option (Num × Nat × Vc)
  | .raw v => match v with | .slice none 0 0 => some (.lit 0, 0, Vc.none sh) | _ => none
  | .vec i e a n => match S.vec i with
    | some v => match Nat.beq e (lenL sh) && eqSh sh v.sh with | true => some (n, a, v) | false => none
    | none => none
  | .slice i o l _ => match S.cellsAt i o (Nat.mul l (lenL sh)) with
    | some cs => match fitsAll sh l cs with | true => some (.lit l, 0, Vc.ofCells sh l cs) | false => none
    | none => none
  | _ => none

def needN (n m : Num) (bytes : Nat) : Bool := Nat.ble (Nat.mul (Nat.add n.val m.val) bytes) 140737488355328 && Nat.ble (Nat.add n.val m.val) 140737488355328

def evAppend (P : Program) (S : St) (ts : List TypeId) (x y : AVal) : Option Out :=
  match ts with
  | [t, tx] => match kd P t, kd P tx with
    | some (.slice e), some (.slice _) => match elemOf P e, tbytes P e with
      | some (sh, _), some by_ => match srcOf S sh y with
        | some (m, fb, u) => match x with
          | .raw v => match v with
            | .slice none 0 0 => some ⟨.vec S.hp.length (lenL sh) 0 m, [], [], [⟨[], false, some (Vc.join sh (.lit 0) 0 none m fb u)⟩],
                needN (.lit 0) m by_ && Nat.ble (Nat.add fb m.val) u.n.val, none⟩
            | _ => none
          | .vec i e' a n => match S.vec i with
            | some v => match v.wr && Nat.beq e' (lenL sh) && eqSh sh v.sh with
              | true => some ⟨.vec S.hp.length (lenL sh) 0 (addNum n m), [], [(i, Vc.none [])], [⟨[], false, some (Vc.join sh n a (some v) m fb u)⟩],
                  needN n m by_ && (Nat.ble (Nat.add fb m.val) u.n.val && Nat.ble (Nat.add a n.val) v.n.val), none⟩
              | false => none
            | none => none
          | _ => none
        | none => none
      | _, _ => none
    | _, _ => none
  | _ => none

/-- The cells of a zero value, of such kinds. -/
def zeroK : List CK → List Value → Bool
  | [], [] => true
  | .f32 :: r, .float .f32 0 :: vs => zeroK r vs
  | .int k :: r, .int k' 0 :: vs => match decide (k = k') with | true => zeroK r vs | false => false
  | .bool :: r, .bool false :: vs => zeroK r vs
  | _, _ => false
/-- A row whose elements from a on, n of them, are made zero. -/
def clrV (v : Vc) (a n : Nat) : Vc := ⟨v.sh, v.n, fun k o => cond (cond (Nat.ble a k) (Nat.ble (k + 1) (Nat.add a n)) false) 0 (v.fd k o), fun k o => cond (cond (Nat.ble a k) (Nat.ble (k + 1) (Nat.add a n)) false) 0 (v.gd k o), fun k o => cond (cond (Nat.ble a k) (Nat.ble (k + 1) (Nat.add a n)) false) false (v.bd k o), v.wr⟩
noncomputable def evBuiltin (P : Program) (S : St) (b : Builtin) (ts : List TypeId) (args : List AVal) : Option Out :=
  match b, args with
  | .len, [.slice _ _ l _] => match ts with
    | t :: _ => match kd P t with | some (.slice _) => pureO (.int .i64 l) | _ => none
    | [] => none
  | .len, [.vec _ _ _ n] => match ts with
    | t :: _ => match kd P t with | some (.slice _) => pureO (lenA n) | _ => none
    | [] => none
  | .len, [.raw v] => match ts, v with
    | t :: _, .slice none n _ => match kd P t with | some (.slice _) => pureO (.int .i64 n) | _ => none
    | _, _ => none
  | .len, [.agg _] => match ts with
    | t :: _ => match kd P t with | some (.arr n _) => pureO (.int .i64 n) | _ => none
    | [] => none
  | .append, [x, y] => evAppend P S ts x y
  | .min, args => match minmax false args with | some v => pureO v | none => none
  | .max, args => match minmax true args with | some v => pureO v | none => none
  | .clear, [.vec i e a n] => match ts with
    | t :: _ => match kd P t, S.vec i with
      | some (.slice u), some v => match tzero P u with
        | some z => match v.wr && (Nat.beq e (lenL v.sh) && zeroK v.sh z.cells.toList) with
          | true => some ⟨.tuple [], [], [(i, clrV v a n.val)], [], Nat.ble 1 n.val && Nat.ble (Nat.add a n.val) v.n.val, none⟩
          | false => none
        | none => none
      | _, _ => none
    | [] => none
  | _, _ => none

noncomputable def evCall (Γ : List (Nat × Ctr)) (S : St) (f : FuncId) (args : List AVal) : Option Out :=
  match lookC f Γ with
  | some c => match c.x with
   | some k => match evExt k args with | some (c, v) => needO c v | none => none
   | none => c.fn args S
  | none => none

/-- An index off a value: the element, and what it asks. -/
def idxV (i : AVal) (n : Num) : Option (Nat × Bool) :=
  match i with
  | .int _ z => match natOf z with | some m => some (m, Nat.ble (m + 1) n.val) | none => none
  | .sint _ z => some (z.toNat, decide (0 ≤ z) && Nat.ble (z.toNat + 1) n.val)
  | .lint _ _ m => some (m, Nat.ble (m + 1) n.val)
  | _ => none

/-- A bound of a slice expression. -/
def bndV (S : St) (x : Option Operand) (dflt : Num) : Option (Num × Bool) :=
  match x with
  | none => some (dflt, true)
  | some a => match opd S a with
    | .int _ z => match natOf z with | some m => some (.lit m, true) | none => none
    | .sint _ z => some (.sym z.toNat, decide (0 ≤ z))
    | .lint _ lo m => some (.ge lo m, true)
    | _ => none

def subNum : Num → Num → Num
  | .lit n, .lit m => .lit (Nat.sub n m)
  | .ge lo n, .lit m => .ge (Nat.sub lo m) (Nat.sub n m)
  | a, b => .sym (Nat.sub a.val b.val)

/-- Whether the values of a type have the methods that are wanted. -/
def hasM (P : Program) (want : Array (String × TypeId)) (t : TypeId) : Option Bool :=
  match P.info? t with
  | some i => match Instr.missingMethod want i.methods with | none => some true | some _ => some false
  | none => none

/-- An assertion that doesn't hold. -/
def evTA0 (P : Program) (S : St) (asserted : TypeId) : Option AVal :=
  match tzero P asserted with | some z => some (.tuple [opd S (.const z), .bool false]) | none => none

/-- An assertion with an ok. -/
def evTA (P : Program) (S : St) (asserted : TypeId) (x : AVal) : Option AVal :=
  match P.underlying asserted with
  | some (.interface want) => match x with
    | .ifc t v => match hasM P want t with
      | some true => some (.tuple [.ifc t v, .bool true])
      | some false => evTA0 P S asserted
      | none => none
    | .raw u => match u with | .nilIface => evTA0 P S asserted | _ => none
    | _ => none
  | some _ => match x with
    | .ifc t v => match Nat.beq t asserted with
      | true => some (.tuple [v, .bool true])
      | false => evTA0 P S asserted
    | .raw u => match u with | .nilIface => evTA0 P S asserted | _ => none
    | _ => none
  | none => none

/-- The method of a type, of a value. -/
def methOf (P : Program) (t : TypeId) (name : String) : Option FuncId :=
  match P.info? t with
  | some i => match i.methods.find? (·.name == name) with
    | some m => match m.path.toList, m.func with
      | [], some (g, false) => match P.underlying t with
        | some (.pointer _) => none
        | some _ => some g
        | none => none
      | _, _ => none
    | none => none
  | none => none

noncomputable def evOp (P : Program) (Γ : List (Nat × Ctr)) (S : St) (op : Op) : Option Out :=
  match op with
  | .move x => pureO (opd S x)
  | .assign x => pureO (opd S x)
  | .pick c a b => match opd S c with
    | .bool true => pureO (opd S a)
    | .bool false => pureO (opd S b)
    | .sbool c => pureO (mergeV c (opd S a) (opd S b))
    | _ => none
  | .alloc t => match tzero P t with
    | some z => some ⟨.ptr S.hp.length 0, [], [], [⟨absC z.cells.toList, true, none⟩], true, none⟩
    | none => none
  | .box _ x => match cellsO (opd S x) with
    | some cs => some ⟨.ptr S.hp.length 0, [], [], [⟨cs, true, none⟩], true, none⟩
    | none => none
  | .build t parts => match tzero P t, kd P t with
    | some z, some (.struct fs) => match plcs P fs with
      | some pl => match fillG (fun j => nthP j pl) S (absC z.cells.toList) parts.toList with
        | some cs => pureO (.agg cs)
        | none => none
      | none => none
    | some z, some (.arr _ e) => match tsize P e with
      | some sz => match fillG (fun j => some (j * sz, sz)) S (absC z.cells.toList) parts.toList with
        | some cs => pureO (.agg cs)
        | none => none
      | none => none
    | _, _ => none
  | .load t a => match opd S a with
    | .ptr i o => match kd P t, tsize P t with
      | some k, some n => match k.isAgg with
        | true => match S.cellsAt i o n with | some cs => pureO (.agg cs) | none => none
        | false => match S.cell i o with | some v => pureO v | none => none
      | _, _ => none
    | .vptr i e k o => match kd P t, tsize P t, S.vec i with
      | some d, some n, some v => match Nat.beq e (lenL v.sh) with
        | true => match d.isAgg with
          | true => match v.cellsAt k o n with | some cs => needO (Nat.ble (k + 1) v.n.val) (.agg cs) | none => none
          | false => match v.cellsAt k o 1 with | some [x] => needO (Nat.ble (k + 1) v.n.val) x | _ => none
        | false => none
      | _, _, _ => none
    | _ => none
  | .store t a x => match opd S a with
    | .ptr i o => match tsize P t, cellsO (opd S x) with
      | some n, some cs => match Nat.beq cs.length n && (S.blk i).wr && Nat.ble (o + n) (S.blk i).cells.length && allOne cs with
        | true => some ⟨.raw undef, storeL i o cs, [], [], true, none⟩
        | false => none
      | _, _ => none
    | .vptr i e k o => match tsize P t, cellsO (opd S x), S.vec i with
      | some n, some cs, some v => match v.wr && (Nat.beq cs.length n && (Nat.beq e (lenL v.sh) && fitsL v.sh o cs)) with
        | true => some ⟨.raw undef, [], [(i, v.put k o cs)], [], Nat.ble (k + 1) v.n.val, none⟩
        | false => none
      | _, _, _ => none
    | _ => none
  | .nilCheck x => match opd S x with
    | .ptr i o => pureO (.ptr i o)
    | .vptr i e k o => pureO (.vptr i e k o)
    | .fn (.func f) xs ys => pureO (.fn (.func f) xs ys)
    | _ => none
  | .binOp op t x y _ => match evBin P t op (opd S x) (opd S y) with | some v => pureO v | none => match evAgg P t op (opd S x) (opd S y) with | some v => pureO v | none => match evNilc P t op (opd S x) (opd S y) with | some (c, v) => needO c v | none => none
  | .unOp op _ x => match evUn op (opd S x) with | some v => pureO v | none => none
  | .convert src dst x => match evConv P src dst (opd S x) with
    | some v => pureO v
    | none => match evNrw P src dst (opd S x) with | some (c, v) => needO c v | none => none
  | .fieldAddr s x f => match opd S x, kd P s with
    | .ptr i o, some (.struct fs) => match fieldOf fs f with
      | some fd => match tsize P fd.type with
        | some 0 => none
        | some _ => pureO (.ptr i (Nat.add o fd.offset))
        | none => none
      | none => none
    | .vptr i e k o, some (.struct fs) => match fieldOf fs f with
      | some fd => match tsize P fd.type with
        | some 0 => none
        | some _ => pureO (.vptr i e k (Nat.add o fd.offset))
        | none => none
      | none => none
    | _, _ => none
  | .field t x f => match opd S x, kd P t with
    | .agg cs, some (.struct fs) => match fieldOf fs f with
      | some fd => match partV P fd.type cs fd.offset with | some v => pureO v | none => none
      | none => none
    | _, _ => none
  | .indexAddr t x ix => match opd S x, kd P t with
    | .ptr i o, some (.arr n e) => match idxOf (opd S ix) n, tsize P e with
      | some m, some sz => pureO (.ptr i (Nat.add o (Nat.mul m sz)))
      | _, _ => none
    | .vptr i el k o, some (.arr n e) => match idxOf (opd S ix) n, tsize P e with
      | some m, some sz => pureO (.vptr i el k (Nat.add o (Nat.mul m sz)))
      | _, _ => none
    | .vec i el a n, some (.slice e) => match idxV (opd S ix) n, tsize P e with
      | some (m, c), some sz => match Nat.beq sz el with | true => needO c (.vptr i el (Nat.add a m) 0) | false => none
      | _, _ => none
    | .slice i o l _, some (.slice e) => match idxOf (opd S ix) l, tsize P e with
      | some m, some sz => pureO (.ptr i (Nat.add o (Nat.mul m sz)))
      | _, _ => none
    | _, _ => none
  | .index t x ix => match opd S x, kd P t with
    | .agg cs, some (.arr n e) => match idxOf (opd S ix) n, tsize P e with
      | some m, some sz => match partV P e cs (Nat.mul m sz) with | some v => pureO v | none => none
      | _, _ => none
    | _, _ => none
  | .slice t x lo hi mx => match opd S x, kd P t, mx with
    | .ptr i o, some (.arr n e), none =>
      match (match lo with | none => some 0 | some a => idxOf (opd S a) (n + 1)), (match hi with | none => some n | some a => idxOf (opd S a) (n + 1)), tsize P e with
      | some l, some h, some sz => match Nat.ble l h && Nat.ble (l + 1) n with
        | true => pureO (.slice i (Nat.add o (Nat.mul l sz)) (Nat.sub h l) (Nat.sub n l))
        | false => none
      | _, _, _ => none
    | .vec i el a n, some (.slice e), none => match bndV S lo (.lit 0), bndV S hi n, tsize P e with
      | some (l, c), some (h, d), some sz => match Nat.beq sz el with
        | true => needO (c && (d && (Nat.ble l.val h.val && Nat.ble h.val n.val))) (.vec i el (Nat.add a l.val) (subNum h l))
        | false => none
      | _, _, _ => none
    | _, _, _ => none
  | .makeInterface t x => match kd P t with
    | some .other => none
    | some _ => match opd S x with | .tuple _ => none | .bad => none | v => pureO (.ifc t v)
    | none => none
  | .makeFunc f xs ys => match f with
    | .func g => pureO (.fn (.func g) (argsOf S xs.toList) (argsOf S ys.toList))
    | _ => none
  | .makeSlice t len cap => match kd P t, numOf (opd S len) with
    | some (.slice e), some (n, c) => match elemOf P e, tbytes P e with
      | some (sh, z), some by_ => match sameOpd len cap with
        | true => some ⟨.vec S.hp.length (lenL sh) 0 n, [], [], [⟨[], false, some (Vc.all sh n z)⟩], c && needN n (.lit 0) by_, none⟩
        | false => none
      | _, _ => none
    | _, _ => none
  | .buildSlice t len parts => match len, parts.toList with
    | 0, [] => match kd P t with
      | some (.slice e) => match elemOf P e with
        | some (sh, z) => some ⟨.vec S.hp.length (lenL sh) 0 (.lit 0), [], [], [⟨[], false, some (Vc.all sh (.lit 0) z)⟩], true, none⟩
        | none => none
      | _ => none
    | 1, [p] => match kd P t with
      | some (.slice e) => match tzero P e, tsize P e with
        | some z, some sz => match Nat.beq z.cells.size sz && (Nat.ble 1 sz && Nat.ble sz 16777216) with
          | true => match fillG (fun j => some (j * sz, sz)) S (absC z.cells.toList) [p] with
            | some cs => some ⟨.slice S.hp.length 0 1 1, [], [], [⟨cs, true, none⟩], true, none⟩
            | none => none
          | false => none
        | _, _ => none
      | _ => none
    | _, _ => none
  | .panic x => match opd S x with
    | .ifc t v => some ⟨.raw undef, [], [], [], true, some (true, .ifc t v)⟩
    | _ => none
  | .typeAssert x _ asserted ok => match ok with
    | true => match evTA P S asserted (opd S x) with | some v => pureO v | none => none
    | false => none
  | .extract t ix => match opd S t with
    | .tuple vs => match Nat.ble (ix + 1) vs.length with | true => pureO (nth ix vs) | false => none
    | _ => none
  | .call c => match c.callee with
    | .builtin b => evBuiltin P S b c.argTypes.toList (argsOf S c.args.toList)
    | .value f => match opd S f with
      | .fn (.func g) xs ys => evCall Γ S g (xs ++ argsOf S c.args.toList ++ ys)
      | _ => none
    | .invoke r name => match opd S r with
      | .ifc t v => match methOf P t name with
        | some g => evCall Γ S g (v :: argsOf S c.args.toList)
        | none => none
      | _ => none
  | _ => none


/-! Trees of ways. -/
inductive Ex where
  | normal
  | exit (id : Nat)
  | ret
  | panic (v : AVal)

/-- Two ways that may be made one. -/
def Ex.same : Ex → Ex → Bool
  | .normal, .normal => true
  | .exit i, .exit j => Nat.beq i j
  | _, _ => false

inductive Tr where
  | leaf (e : Ex) (d : Dl)
  | node (d : Dl) (b : Bool) (l r : Tr)

/-- What a tree asks. -/
def Tr.need : Tr → Bool
  | .leaf _ d => d.nd
  | .node d b l r => cond d.nd (cond b l.need r.need) false

def memN (t : Nat) : List Nat → Bool
  | [] => false
  | k :: r => match Nat.beq t k with | true => true | false => memN t r

def keysO : List (Nat × AVal) → List Nat → List Nat
  | [], acc => acc
  | (k, _) :: r, acc => match memN k acc with | true => keysO r acc | false => keysO r (k :: acc)

def memP (i o : Nat) : List (Nat × Nat) → Bool
  | [] => false
  | k :: r => match Nat.beq i k.1 && Nat.beq o k.2 with | true => true | false => memP i o r

def keysH : List ((Nat × Nat) × AVal) → List (Nat × Nat) → List (Nat × Nat)
  | [], acc => acc
  | (k, _) :: r, acc => match memP k.1 k.2 acc with | true => keysH r acc | false => keysH r (k :: acc)

def keysV : List (Nat × Vc) → List Nat → List Nat
  | [], acc => acc
  | (k, _) :: r, acc => match memN k acc with | true => keysV r acc | false => keysV r (k :: acc)

def mergeOv (b : Bool) (S1 S2 : St) : List Nat → List (Nat × AVal)
  | [] => []
  | t :: r => (t, mergeV b (S1.get t) (S2.get t)) :: mergeOv b S1 S2 r

def cellD (S : St) (k : Nat × Nat) : AVal := match S.cell k.1 k.2 with | some v => v | none => .bad

def mergeHv (b : Bool) (n : Nat) (S1 S2 : St) : List (Nat × Nat) → List ((Nat × Nat) × AVal)
  | [] => []
  | k :: r => match Nat.ble (k.1 + 1) n with
    | true => (k, mergeV b (cellD S1 k) (cellD S2 k)) :: mergeHv b n S1 S2 r
    | false => mergeHv b n S1 S2 r

def ndc (b : Bool) : Bool → Bool → Bool
  | true, true => true
  | true, false => b
  | false, true => !b
  | false, false => false
theorem ndc_eq (b l r : Bool) : ndc b l r = cond b l r := by cases b <;> cases l <;> cases r <;> rfl

def mergeNum (b : Bool) : Num → Num → Num
  | .lit n, .lit m => match Nat.beq n m with | true => .lit n | false => .sym (cond b n m)
  | .ge lo n, .ge lo' m => match Nat.beq lo lo' with | true => .ge lo (cond b n m) | false => .sym (cond b n m)
  | n, m => .sym (cond b n.val m.val)

/-- Two rows become one. -/
def mergeVc (b : Bool) (v u : Vc) : Vc :=
  match v.sh, u.sh with
  | [], _ => Vc.none []
  | _ :: _, [] => Vc.none []
  | c :: sh, d :: sh' => match eqSh (c :: sh) (d :: sh') with
    | true => ⟨c :: sh, mergeNum b v.n u.n, fun k o => cond b (v.fd k o) (u.fd k o), fun k o => cond b (v.gd k o) (u.gd k o), fun k o => cond b (v.bd k o) (u.bd k o), v.wr && u.wr⟩
    | false => Vc.none []

/-- Two rows become one; one without a shape has no element. -/
def mergeVr (b : Bool) (v u : Vc) : Vc :=
  match v.sh, u.sh with
  | [], [] => Vc.none []
  | [], c :: sh => ⟨c :: sh, mergeNum b (.lit 0) u.n, u.fd, u.gd, u.bd, u.wr⟩
  | c :: sh, [] => ⟨c :: sh, mergeNum b v.n (.lit 0), v.fd, v.gd, v.bd, v.wr⟩
  | c :: sh, d :: sh' => match eqSh (c :: sh) (d :: sh') with
    | true => ⟨c :: sh, mergeNum b v.n u.n, fun k o => cond b (v.fd k o) (u.fd k o), fun k o => cond b (v.gd k o) (u.gd k o), fun k o => cond b (v.bd k o) (u.bd k o), v.wr && u.wr⟩
    | false => Vc.none []

def vecD (S : St) (i : Nat) : Vc := match S.vec i with | some v => v | none => Vc.none []

def mergeVv (b : Bool) (n : Nat) (S1 S2 : St) : List Nat → List (Nat × Vc)
  | [] => []
  | i :: r => match Nat.ble (i + 1) n with
    | true => (i, mergeVc b (vecD S1 i) (vecD S2 i)) :: mergeVv b n S1 S2 r
    | false => mergeVv b n S1 S2 r

def deadB : Nat → List Blk
  | 0 => []
  | n + 1 => ⟨[], false, none⟩ :: deadB n

/-- One way on, where both ways of a branch have come to the same place. -/
def mergeD (b : Bool) (S : St) (d1 d2 : Dl) : Dl :=
  ⟨mergeOv b (S.ext d1) (S.ext d2) (keysO d2.ov (keysO d1.ov [])),
   mergeHv b S.hp.length (S.ext d1) (S.ext d2) (keysH d2.hv (keysH d1.hv [])),
   mergeVv b S.hp.length (S.ext d1) (S.ext d2) (keysV d2.vv (keysV d1.vv [])),
   deadB (Nat.add d1.nw.length d2.nw.length), [], ndc b d1.nd d2.nd⟩

def Dl.comp (d dm : Dl) : Dl := ⟨dm.ov ++ d.ov, dm.hv ++ d.hv, dm.vv ++ d.vv, d.nw ++ dm.nw, dm.df ++ d.df, cond d.nd dm.nd false⟩

def noDf : Dl → Bool := fun d => match d.df with | [] => true | _ => false

/-- Two rows that are not one. -/
def clash : AVal → AVal → Bool
  | .vec i e a _, .vec i' e' a' _ => !(Nat.beq i i' && (Nat.beq e e' && Nat.beq a a'))
  | .vec _ _ _ _, .raw v => match v with | .slice none 0 0 => true | _ => false
  | .raw v, .vec _ _ _ _ => match v with | .slice none 0 0 => true | _ => false
  | _, _ => false

def clashO (S1 S2 : St) : List Nat → Bool
  | [] => false
  | t :: r => match clash (S1.get t) (S2.get t) with | true => true | false => clashO S1 S2 r

def clashH (n : Nat) (S1 S2 : St) : List (Nat × Nat) → Bool
  | [] => false
  | k :: r => match Nat.ble (k.1 + 1) n && clash (cellD S1 k) (cellD S2 k) with | true => true | false => clashH n S1 S2 r

/-- Two ways that may become one: nothing is put off, and no slot and no cell holds the one row here, the other one there. -/
def mrgOk (S : St) (d1 d2 : Dl) : Bool := (noDf d1 && noDf d2) && (!clashO (S.ext d1) (S.ext d2) (keysO d2.ov (keysO d1.ov [])) && !clashH S.hp.length (S.ext d1) (S.ext d2) (keysH d2.hv (keysH d1.hv [])))

/-- A delta ahead of a tree. -/
def preT (d : Dl) : Tr → Tr
  | .leaf e dx => .leaf e (d.comp dx)
  | .node dx b l r => .node (d.comp dx) b l r

/-- No way leads on. -/
def hardT : Tr → Bool
  | .leaf e _ => match e with | .normal => false | _ => true
  | .node _ _ l r => match hardT l with | true => hardT r | false => false

/-- A tree of which one way leads on: the delta ahead, when it does not, what then, and the way on. -/
def splitT : Tr → Option (Dl × Bool × Tr × Dl)
  | .leaf _ _ => none
  | .node d b l r => match l, r with
    | l, .leaf .normal dn => match hardT l with | true => some (d, b, l, dn) | false => none
    | .leaf .normal dn, r => match hardT r with | true => some (d, !b, r, dn) | false => none
    | _, _ => none

/-- Two ways on become one, and the ways that lead out come first. -/
def mkNode2 (S : St) (d : Dl) (b : Bool) (l r : Tr) : Tr :=
  match l, splitT r with
  | .leaf .normal d1, some (dr, br, Xr, n2) => match mrgOk (S.ext d) d1 (dr.comp n2) with
    | true => .node d (cond b false br) (preT dr Xr) (.leaf .normal (mergeD b (S.ext d) d1 (dr.comp n2)))
    | false => .node d b l r
  | _, some (dr, br, Xr, n2) => match splitT l with
    | some (dl, bl, Xl, n1) => match mrgOk (S.ext d) (dl.comp n1) (dr.comp n2) with
      | true => .node d (cond b bl br) (.node Dl.nil b (preT dl Xl) (preT dr Xr)) (.leaf .normal (mergeD b (S.ext d) (dl.comp n1) (dr.comp n2)))
      | false => .node d b l r
    | none => .node d b l r
  | _, none => match r, splitT l with
    | .leaf .normal d2, some (dl, bl, Xl, n1) => match mrgOk (S.ext d) (dl.comp n1) d2 with
      | true => .node d (cond b bl false) (preT dl Xl) (.leaf .normal (mergeD b (S.ext d) (dl.comp n1) d2))
      | false => .node d b l r
    | _, _ => .node d b l r

def mkNode (S : St) (d : Dl) (b : Bool) (l r : Tr) : Tr :=
  match l, r with
  | .leaf e1 d1, .leaf e2 d2 => match Ex.same e1 e2 && mrgOk (S.ext d) d1 d2 with
    | true => .leaf e1 (d.comp (mergeD b (S.ext d) d1 d2))
    | false => .node d b l r
  | _, _ => mkNode2 S d b l r

/-- Nothing is known of what comes: it must not come to it. -/
def stuckT : Tr := .leaf .ret ⟨[], [], [], [], [], false⟩

def orStuck : Option Tr → Tr
  | some t => t
  | none => stuckT

/-- Go on from each normal leaf. -/
def bindT (S : St) (t : Tr) (f : St → Dl → Option Tr) : Option Tr :=
  match t with
  | .leaf e d => match e with
    | .normal => f S d
    | e => some (.leaf e d)
  | .node d b l r => some (mkNode S d b (orStuck (bindT (S.ext d) l f)) (orStuck (bindT (S.ext d) r f)))

/-- A block's end: its own exit is the way on. -/
def unblock (id : Nat) (S : St) : Tr → Tr
  | .leaf e d => match e with
    | .exit j => match Nat.beq id j with | true => .leaf .normal d | false => .leaf e d
    | e => .leaf e d
  | .node d b l r => mkNode S d b (unblock id (S.ext d) l) (unblock id (S.ext d) r)

/-- Both; what is sure is left out. -/
def andN (a b : Bool) : Bool := match b with | true => a | false => false

def Dl.put (d : Dl) (dst : Option Nat) (v : AVal) (hv : List ((Nat × Nat) × AVal)) (vv : List (Nat × Vc)) (nw : List Blk) (nd : Bool) : Dl :=
  ⟨match dst with | some t => (t, v) :: d.ov | none => d.ov, hv ++ d.hv, vv ++ d.vv, d.nw ++ nw, d.df, andN d.nd nd⟩

def slotOf (ops : List Oper) : Nat → Option Nat
  | 0 => match ops with | o :: _ => o.dst | [] => none
  | n + 1 => match ops with | _ :: r => slotOf r n | [] => none

inductive Gd where
  | yes | no | split (t : Nat) (b : Bool) | stuck

/-- What a guard says. -/
def guardOf (ops : List Oper) (S : St) (g : Option (Nat × Bool)) : Gd :=
  match g with
  | none => .yes
  | some (j, want) => match slotOf ops j with
    | none => .no
    | some t => match S.get t with
      | .bool b => match b == want with | true => .yes | false => .no
      | .sbool b => .split t b
      | .raw (.tuple _) => .no
      | _ => .stuck

/-- The slot is one of the frame's. -/
def okDst (N : Nat) : Option Nat → Bool
  | none => true
  | some t => Nat.ble (t + 1) N

/-- Nothing is written, nothing is made. -/
def Out.quiet (o : Out) : Bool := match o.hv, o.vv, o.nw, o.pn with | [], [], [], none => true | _, _, _, _ => false

/-- A call that is put off. -/
def dferOf (S : St) : Op → Option (AVal × List AVal)
  | .defer c => match c.callee with
    | .value f => match opd S f with
      | .fn (.func g) [] ys => match c.args.toList with
        | [] => some (.fn (.func g) [] ys, [])
        | _ => none
      | _ => none
    | _ => none
  | _ => none

def isDefer : Op → Bool
  | .defer _ => true
  | _ => false

noncomputable def evOps (P : Program) (Γ : List (Nat × Ctr)) (N : Nat) (q : Bool) (all : List Oper) : Nat → List Oper → St → Dl → Option Tr
  | 0, _, _, _ => none
  | _ + 1, [], _, d => some (.leaf .normal d)
  | n + 1, o :: rest, S, d =>
    match okDst N o.dst with
    | false => none
    | true =>
      match guardOf all (S.ext d) o.guard with
      | .yes => match isDefer o.op with
        | true => match q, o.guard, dferOf (S.ext d) o.op with
          | false, none, some f => evOps P Γ N q all n rest S ⟨match o.dst with | some t => (t, .raw undef) :: d.ov | none => d.ov, d.hv, d.vv, d.nw, f :: d.df, d.nd⟩
          | _, _, _ => none
        | false => match evOp P Γ (S.ext d) o.op with
          | some out => match !q || out.quiet with
            | true => match out.pn with
              | none => evOps P Γ N q all n rest S (d.put o.dst out.v out.hv out.vv out.nw out.nd)
              | some (b, v) => match evOps P Γ N q all n rest (S.ext d) (Dl.nil.put o.dst out.v out.hv out.vv out.nw out.nd) with
                | some r => some (.node d b (.leaf (.panic v) ⟨[], [], [], [], [], out.nd⟩) r)
                | none => some (.node d b (.leaf (.panic v) ⟨[], [], [], [], [], out.nd⟩) stuckT)
            | false => none
          | none => none
      | .no => evOps P Γ N q all n rest S (d.put o.dst (.raw undef) [] [] [] true)
      | .split t b => some (mkNode S d b (orStuck (evOps P Γ N q all n (o :: rest) (S.ext d) (Dl.one t (.bool true)))) (orStuck (evOps P Γ N q all n (o :: rest) (S.ext d) (Dl.one t (.bool false)))))
      | .stuck => none

/-! Whether a region that draws its order may be read in the text's order. -/
def tmpsOf : List Operand → List Nat
  | [] => []
  | .tmp t :: r => t :: tmpsOf r
  | _ :: r => tmpsOf r

/-- The slots that an operation looks at. -/
def looks (all : List Oper) (o : Oper) : List Nat :=
  (match o.guard with | some (j, _) => (match slotOf all j with | some t => [t] | none => []) | none => []) ++ tmpsOf o.op.operands.toList

def addN (x : Nat) (l : List Nat) : List Nat := match memN x l with | true => l | false => x :: l
def uniN : List Nat → List Nat → List Nat
  | [], l => l
  | x :: r, l => uniN r (addN x l)

/-- What surely comes ahead of each operation, the first ones first. -/
def ancs : List Oper → List (List Nat) → List (List Nat)
  | [], acc => acc
  | o :: r, acc => ancs r (acc ++ [(o.after.toList.filter (fun e => Region.binds .any e)).foldl (fun l e => addN e.on (uniN ((acc[e.on]?).getD []) l)) []])

def memT (t : Option Nat) (l : List Nat) : Bool := match t with | some t => memN t l | none => false

def sameT (t u : Option Nat) : Bool := match t, u with | some t, some u => Nat.beq t u | _, _ => false

/-- 'o' (the i-th) against the later ones. -/
def drawRow (all : List Oper) (anc : List (List Nat)) (o : Oper) (i : Nat) : List Oper → Nat → Bool
  | [], _ => true
  | u :: r, j =>
    (!sameT o.dst u.dst) &&
    ((!(memT o.dst (looks all u) || memT u.dst (looks all o))) || memN i ((anc[j]?).getD [])) &&
    drawRow all anc o i r (j + 1)

def drawRows (all : List Oper) (anc : List (List Nat)) : List Oper → Nat → Bool
  | [], _ => true
  | o :: r, i => drawRow all anc o i r (i + 1) && (o.after.toList.all fun e => !Region.binds .any e || Nat.ble (e.on + 1) i) && drawRows all anc r (i + 1)

def drawOk (all : List Oper) : Bool := drawRows all (ancs all []) all 0

/-- What has been written is no longer known. -/
def killHv : List ((Nat × Nat) × AVal) → List Nat → List Nat
  | [], acc => acc
  | (k, _) :: r, acc => killHv r (k.1 :: acc)
def killVv : List (Nat × Vc) → List Nat → List Nat
  | [], acc => acc
  | (k, _) :: r, acc => killVv r (k :: acc)

def guardV (n : Nat) (x : AVal) : AVal := match x.under n with | true => x | false => .bad

def guardL (n : Nat) : List AVal → List AVal
  | [] => []
  | x :: r => guardV n x :: guardL n r

def guardH (n : Nat) : List ((Nat × Nat) × AVal) → List ((Nat × Nat) × AVal)
  | [] => []
  | (k, x) :: r => (k, guardV n x) :: guardH n r
def guardHs (n : Nat) : List (List ((Nat × Nat) × AVal)) → List (List ((Nat × Nat) × AVal))
  | [] => []
  | l :: r => guardH n l :: guardHs n r

/-- Of a slot's value what leads to new blocks is no longer known. -/
def guardA (n : Nat) : AVal → AVal
  | .agg cs => .agg (guardAL n cs)
  | .tuple cs => .tuple (guardAL n cs)
  | x => guardV n x
where guardAL (n : Nat) : List AVal → List AVal
  | [] => []
  | c :: r => guardA n c :: guardAL n r

def guardO (n : Nat) : List (Nat × AVal) → List (Nat × AVal)
  | [] => []
  | (k, x) :: r => (k, guardA n x) :: guardO n r
def guardOs (n : Nat) : List (List (Nat × AVal)) → List (List (Nat × AVal))
  | [] => []
  | l :: r => guardO n l :: guardOs n r

def dropB (n : Nat) (ks : List Nat) : Nat → List Blk → List Blk
  | _, [] => []
  | i, b :: r => (match memN i ks with
    | true => ⟨[], false, none⟩
    | false => ⟨guardL n b.cells, false, match b.vc with | some v => some ⟨v.sh, v.n, v.fd, v.gd, v.bd, false⟩ | none => none⟩) :: dropB n ks (i + 1) r

def roV : List (Nat × Vc) → List (Nat × Vc)
  | [] => []
  | (i, v) :: r => (i, ⟨v.sh, v.n, v.fd, v.gd, v.bd, false⟩) :: roV r
def roVs : List (List (Nat × Vc)) → List (List (Nat × Vc))
  | [] => []
  | l :: r => roV l :: roVs r

/-- The slots of a state, over the memory of another one, of which some blocks are no longer known, and which may not be written. -/
def St.over (S H : St) (ks : List Nat) : St := ⟨guardA.guardAL H.hp.length S.fr, guardOs H.hp.length S.ovs, dropB H.hp.length ks 0 H.hp, guardHs H.hp.length H.hvs, roVs H.vvs, S.dfs⟩

def Out.calm (o : Out) : Bool := match o.hv, o.vv, o.nw with | [], [], [] => true | _, _, _ => false

/-- What the loud one writes is among the blocks told. -/
def killsOk (ks : List Nat) (out : Out) : Bool := (out.hv.all fun e => memN e.1.1 ks) && (out.vv.all fun e => memN e.1 ks)

/-- The blocks that the loud one 'l' writes. -/
def kOf (l : Nat) : List (Nat × List Nat) → List Nat
  | [] => []
  | p :: r => match Nat.beq p.1 l with | true => p.2 | false => kOf l r

/-- The blocks that are written by loud ones that don't come surely behind the i-th. -/
def kNot (anc : List (List Nat)) (i : Nat) : List (Nat × List Nat) → List Nat
  | [] => []
  | p :: r => match memN i ((anc[p.1]?).getD []) with | true => kNot anc i r | false => p.2 ++ kNot anc i r

/-- Each loud one comes surely ahead of it, or surely behind it. -/
def cmpOk (anc : List (List Nat)) (ls : List Nat) (i : Nat) : Bool := ls.all fun l => Nat.beq l i || (memN l ((anc[i]?).getD []) || memN i ((anc[l]?).getD []))

/-- The operations of a region that draws its order, one by one: those of 'ls' may write and make. 'H': the memory ahead of the region. -/
noncomputable def evDr (P : Program) (Γ : List (Nat × Ctr)) (N : Nat) (all : List Oper) (anc : List (List Nat)) (ls : List Nat) (ks : List (Nat × List Nat)) (H : St) : Nat → Nat → List Oper → St → Dl → Option Tr
  | 0, _, _, _, _ => none
  | _ + 1, _, [], _, d => some (.leaf .normal d)
  | n + 1, i, o :: rest, S, d =>
    match okDst N o.dst && !isDefer o.op with
    | false => none
    | true => match guardOf all (S.ext d) o.guard with
      | .stuck => none
      | .no => evDr P Γ N all anc ls ks H n (i + 1) rest S (d.put o.dst (.raw undef) [] [] [] true)
      | .split t b => some (mkNode S d b (orStuck (evDr P Γ N all anc ls ks H n i (o :: rest) (S.ext d) (Dl.one t (.bool true)))) (orStuck (evDr P Γ N all anc ls ks H n i (o :: rest) (S.ext d) (Dl.one t (.bool false)))))
      | .yes => match cmpOk anc ls i with
          | true => match evOp P Γ (S.ext d) o.op with
            | some out => match memN i ls with
              | true => match out.pn, killsOk (kOf i ks) out with
                | none, true => evDr P Γ N all anc ls ks H n (i + 1) rest S (d.put o.dst out.v out.hv out.vv out.nw out.nd)
                | _, _ => none
              | false => match out.quiet with
                | true => evDr P Γ N all anc ls ks H n (i + 1) rest S (d.put o.dst out.v [] [] [] out.nd)
                | false => none
            | none => none
          | false => match memN i ls with
            | true => none
            | false => match evOp P Γ ((S.ext d).over H (kNot anc i ks)) o.op with
              | some out => match out.quiet && out.v.under H.hp.length with
                | true => evDr P Γ N all anc ls ks H n (i + 1) rest S (d.put o.dst out.v [] [] [] out.nd)
                | false => none
              | none => none

/-- The operations that are loud when all are read in the text's order, and the blocks that they write. -/
noncomputable def loudOf (P : Program) (Γ : List (Nat × Ctr)) (N : Nat) (all : List Oper) : Nat → List Oper → St → Dl → List Nat × List (Nat × List Nat)
  | _, [], _, _ => ([], [])
  | i, o :: rest, S, d =>
    match guardOf all (S.ext d) o.guard with
    | .no => loudOf P Γ N all (i + 1) rest S (d.put o.dst (.raw undef) [] [] [] true)
    | _ => match evOp P Γ (S.ext d) o.op with
      | some out => match loudOf P Γ N all (i + 1) rest S (d.put o.dst out.v out.hv out.vv out.nw out.nd) with
        | (ls, ks) => match out.calm with
          | true => (ls, ks)
          | false => (i :: ls, (i, killVv out.vv (killHv out.hv [])) :: ks)
      | none => ([], [])

/-! New blocks that are in no order with the operations beside them (the boxes of results that are structs): each is made when the text's order comes to the store into it. -/
structure Pd where
  ia : Nat
  is : Nat
  t : Nat
  T : TypeId

/-- No pointer to a new block, and of new rows those alone that may be written. -/
def okV (n : Nat) (X : St) : AVal → Bool
  | .ptr i _ => Nat.ble (i + 1) n
  | .vptr i _ _ _ => Nat.ble (i + 1) n
  | .slice i _ _ _ => Nat.ble (i + 1) n
  | .vec i _ _ _ => match Nat.ble (i + 1) n with
    | true => true
    | false => match X.vec i with
      | some vc => vc.wr && Nat.ble 1 (lenL vc.sh)
      | none => false
  | .fn _ xs ys => okVL n X xs && okVL n X ys
  | .ifc _ x => okV n X x
  | .agg cs => okVL n X cs
  | .tuple cs => okVL n X cs
  | _ => true
where okVL (n : Nat) (X : St) : List AVal → Bool
  | [] => true
  | c :: r => okV n X c && okVL n X r

def okH (n : Nat) (X : St) : List ((Nat × Nat) × AVal) → Bool
  | [] => true
  | (_, x) :: r => okV n X x && okH n X r
def okB (n : Nat) (X : St) : List Blk → Bool
  | [] => true
  | b :: r => okV.okVL n X b.cells && (match b.cells with | [] => true | _ => b.wr) && okB n X r
/-- What it makes lies apart from all that it doesn't know. -/
def okN (S : St) (out : Out) : Bool := okV S.hp.length (S.ext ⟨[], out.hv, out.vv, out.nw, [], true⟩) out.v && okH S.hp.length (S.ext ⟨[], out.hv, out.vv, out.nw, [], true⟩) out.hv && okB S.hp.length (S.ext ⟨[], out.hv, out.vv, out.nw, [], true⟩) out.nw

def isAl : List Pd → Nat → Bool
  | [], _ => false
  | p :: r, i => Nat.beq p.ia i || isAl r i
def findP : List Pd → Nat → Option Pd
  | [], _ => none
  | p :: r, i => match Nat.beq p.is i with | true => some p | false => findP r i

/-- The i-th operation makes the block. -/
def alOk (P : Program) (all : List Oper) (anc : List (List Nat)) (N : Nat) (pds : List Pd) (p : Pd) : Bool :=
  (match all[p.ia]? with
    | some o => (match o.op with | .alloc T => Nat.beq T p.T | _ => false) && (match o.dst with | some t => Nat.beq t p.t | none => false) && (match o.guard with | none => true | some _ => false)
    | none => false) && Nat.ble (p.t + 1) N && memN p.ia ((anc[p.is]?).getD []) && !isAl pds p.is && Nat.ble (p.is + 1) all.length && (match tzero P p.T with | some _ => true | none => false) && (match all[p.is]? with | some o => (match o.dst with | none => true | some _ => false) | none => false)
def alsOk (P : Program) (all : List Oper) (anc : List (List Nat)) (N : Nat) (pds : List Pd) : List Pd → Bool
  | [] => true
  | p :: r => alOk P all anc N pds p && (r.all fun q => !Nat.beq p.ia q.ia && !Nat.beq p.is q.is) && alsOk P all anc N pds r

/-- The list in which the store into a new block writes the block's slot. -/
def vopD (pds : List Pd) (i : Nat) (d : Option Nat) : Option Nat := match isAl pds i with
  | true => none
  | false => match findP pds i with
    | some p => some p.t
    | none => d
def vops (pds : List Pd) : Nat → List Oper → List Oper
  | _, [] => []
  | i, o :: r => ⟨vopD pds i o.dst, o.op, o.type, o.pos, o.after, o.guard⟩ :: vops pds (i + 1) r

noncomputable def evDe (P : Program) (Γ : List (Nat × Ctr)) (N : Nat) (anc : List (List Nat)) (ls : List Nat) (ks : List Nat) (H : St) (pds : List Pd) : Nat → List Oper → St → Dl → Option Dl
  | _, [], _, d => some d
  | i, o :: rest, S, d =>
    match o.guard, okDst N o.dst && !isDefer o.op with
    | none, true => match isAl pds i with
      | true => evDe P Γ N anc ls ks H pds (i + 1) rest S d
      | false => match findP pds i with
        | some p => match cmpOk anc ls i && memN i ls, evOp P Γ (S.ext d) (.alloc p.T) with
          | true, some oa => match evOp P Γ (S.ext (d.put (some p.t) oa.v oa.hv oa.vv oa.nw oa.nd)) o.op with
            | some os => match os.pn, os.nw, okN (S.ext (d.put (some p.t) oa.v oa.hv oa.vv oa.nw oa.nd)) os && killsOk ks ⟨oa.v, os.hv, os.vv, oa.nw, os.nd, none⟩ with
              | none, [], true => evDe P Γ N anc ls ks H pds (i + 1) rest S (d.put o.dst oa.v os.hv os.vv oa.nw os.nd)
              | _, _, _ => none
            | none => none
          | _, _ => none
        | none => match cmpOk anc ls i with
          | true => match evOp P Γ (S.ext d) o.op with
            | some out => match out.pn, okN (S.ext d) out with
              | none, true => match memN i ls with
                | true => match killsOk ks out with
                  | true => evDe P Γ N anc ls ks H pds (i + 1) rest S (d.put o.dst out.v out.hv out.vv out.nw out.nd)
                  | false => none
                | false => match out.quiet with
                  | true => evDe P Γ N anc ls ks H pds (i + 1) rest S (d.put o.dst out.v [] [] [] out.nd)
                  | false => none
              | _, _ => none
            | none => none
          | false => match memN i ls with
            | true => none
            | false => match evOp P Γ ((S.ext d).over H ks) o.op with
              | some out => match out.quiet && out.v.under H.hp.length with
                | true => evDe P Γ N anc ls ks H pds (i + 1) rest S (d.put o.dst out.v [] [] [] out.nd)
                | false => none
              | none => none
    | _, _ => none

/-- The loud ones, and the blocks that they write, where new blocks are made at the stores into them. -/
noncomputable def loudE (P : Program) (Γ : List (Nat × Ctr)) (pds : List Pd) : Nat → List Oper → St → Dl → List Nat × List Nat
  | _, [], _, _ => ([], [])
  | i, o :: rest, S, d => match isAl pds i with
    | true => loudE P Γ pds (i + 1) rest S d
    | false => match findP pds i with
      | some p => match evOp P Γ (S.ext d) (.alloc p.T) with
        | some oa => match evOp P Γ (S.ext (d.put (some p.t) oa.v oa.hv oa.vv oa.nw oa.nd)) o.op with
          | some os => match loudE P Γ pds (i + 1) rest S (d.put o.dst oa.v os.hv os.vv oa.nw os.nd) with
            | (ls, ks) => (i :: ls, killVv os.vv (killHv os.hv ks))
          | none => ([], [])
        | none => ([], [])
      | none => match evOp P Γ (S.ext d) o.op with
        | some out => match loudE P Γ pds (i + 1) rest S (d.put o.dst out.v out.hv out.vv out.nw out.nd) with
          | (ls, ks) => match out.calm with
            | true => (ls, ks)
            | false => (i :: ls, killVv out.vv (killHv out.hv ks))
        | none => ([], [])

/-- The first store into what a slot points to. -/
def findSt (t : Nat) : List Oper → Nat → Option Nat
  | [], _ => none
  | o :: r, i => match o.op with
    | .store _ (.tmp u) _ => match Nat.beq u t with
      | true => some i
      | false => findSt t r (i + 1)
    | _ => findSt t r (i + 1)
def findAl (all : List Oper) : List Oper → Nat → List Pd
  | [], _ => []
  | o :: r, i => match o.op with
    | .alloc T => match o.dst with
      | some t => match findSt t all 0 with
        | some s => ⟨i, s, t, T⟩ :: findAl all r (i + 1)
        | none => findAl all r (i + 1)
      | none => findAl all r (i + 1)
    | _ => findAl all r (i + 1)

def Dl.bads (d : Dl) : List Pd → Dl
  | [] => d
  | p :: r => (Dl.bads d r).put (some p.t) .bad [] [] [] true

noncomputable def evDq (P : Program) (Γ : List (Nat × Ctr)) (N : Nat) (ops : List Oper) (S : St) (d : Dl) (pds : List Pd) : Option Tr :=
  match alsOk P ops (ancs (vops pds 0 ops) []) N pds pds && drawOk (vops pds 0 ops) with
  | true => match loudE P Γ pds 0 (vops pds 0 ops) S (d.bads pds) with
    | (ls, ks) => match evDe P Γ N (ancs (vops pds 0 ops) []) ls ks (S.ext (d.bads pds)) pds 0 (vops pds 0 ops) S (d.bads pds) with
      | some d' => some (.leaf .normal d')
      | none => none
  | false => none

/-- A region that draws its order. -/
noncomputable def evDraw (P : Program) (Γ : List (Nat × Ctr)) (N : Nat) (ops : List Oper) (S : St) (d : Dl) : Option Tr :=
  match drawOk ops with
  | true => match loudOf P Γ N ops 0 ops S d with
    | (ls, ks) => match evDr P Γ N ops (ancs ops []) ls ks (S.ext d) 300 0 ops S d with
      | some t => some t
      | none => evDq P Γ N ops S d (findAl ops ops 0)
  | false => none

def tmpOf : Operand → Option Nat
  | .tmp t => some t
  | _ => none

noncomputable def ev (P : Program) (Γ : List (Nat × Ctr)) (N : Nat) : Nat → Code → St → Dl → Option Tr
  | 0, _, _, _ => none
  | n + 1, c, S, d =>
    match c with
    | .skip => some (.leaf .normal d)
    | .label _ => some (.leaf .normal d)
    | .ret => some (.leaf .ret d)
    | .exit id => some (.leaf (.exit id) d)
    | .seq a b => match ev P Γ N n a S d with
      | some t => bindT S t (fun S d => ev P Γ N n b S d)
      | none => none
    | .cond c a b => match opd (S.ext d) c with
      | .bool true => ev P Γ N n a S d
      | .bool false => ev P Γ N n b S d
      | .sbool x => match tmpOf c with
        | some t => some (mkNode S d x (orStuck (ev P Γ N n a (S.ext d) (Dl.one t (.bool true)))) (orStuck (ev P Γ N n b (S.ext d) (Dl.one t (.bool false)))))
        | none => none
      | _ => none
    | .block id a => match ev P Γ N n a S d with
      | some t => some (unblock id S t)
      | none => none
    | .loop a => match ev P Γ N n a S d with
      | some t => bindT S t (fun S d => ev P Γ N n (.loop a) S d)
      | none => none
    | .scope a => ev P Γ N n a S d
    | .region _ ops draw => match draw with
      | false => evOps P Γ N false ops.toList 300 ops.toList S d
      | true => evDraw P Γ N ops.toList S d
    | _ => none

def getRes (P : Program) (S : St) : List ResultVar → Option (List AVal)
  | [] => some []
  | .tmp t :: r => match getRes P S r with | some vs => some (S.get t :: vs) | none => none
  | .cell a t :: r => match S.get a with
    | .ptr i o => match kd P t, tsize P t, getRes P S r with
      | some k, some n, some vs => match k.isAgg with
        | true => match S.cellsAt i o n with | some cs => some (.agg cs :: vs) | none => none
        | false => match S.cell i o with | some v => some (v :: vs) | none => none
      | _, _, _ => none
    | _ => none

def one : List AVal → AVal
  | [v] => v
  | vs => .tuple vs

/-! The end of a call: what was made in it and is not handed back is forgotten. -/
structure Nm where
  us : List Nat
  vs : List Vc
  nd : Bool

/-- The row from one of its elements on. -/
def shiftV (v : Vc) (a : Nat) (n : Num) : Vc := ⟨v.sh, n, fun k o => v.fd (Nat.add a k) o, fun k o => v.gd (Nat.add a k) o, fun k o => v.bd (Nat.add a k) o, v.wr⟩

/-- The value of a result, its new rows numbered as they are met. 'us': the blocks that have been met. -/
def normV (base : Nat) (S : St) : AVal → Nm → Option (AVal × Nm)
  | .vec i e a n, m => match Nat.ble (i + 1) base with
    | true => some (.vec i e a n, m)
    | false => match S.vec i with
      | some v => match memN i m.us || !(Nat.beq e (lenL v.sh) && Nat.ble 1 e) with
        | true => none
        | false => some (.vec (Nat.add base (lenL m.vs)) e 0 n, ⟨i :: m.us, m.vs ++ [shiftV v a n], cond m.nd (Nat.ble (Nat.add a n.val) v.n.val) false⟩)
      | none => none
  | .raw v, m => match v with
    | .slice none 0 0 => some (.vec (Nat.add base (lenL m.vs)) 0 0 (.lit 0), ⟨m.us, m.vs ++ [Vc.none []], m.nd⟩)
    | v => some (.raw v, m)
  | .agg cs, m => match normL base S cs m with
    | some (cs, m) => some (.agg cs, m)
    | none => none
  | .tuple cs, m => match normL base S cs m with
    | some (cs, m) => some (.tuple cs, m)
    | none => none
  | x, m => match x.under base with | true => some (x, m) | false => none
where normL (base : Nat) (S : St) : List AVal → Nm → Option (List AVal × Nm)
  | [], m => some ([], m)
  | c :: r, m => match normV base S c m with
    | some (c, m) => match normL base S r m with
      | some (r, m) => some (c :: r, m)
      | none => none
    | none => none

/-- Writes to what was there, of what was there. -/
def okU (base : Nat) : AVal → Bool
  | .bad => true
  | v => v.under base

def oldHv (base : Nat) : List ((Nat × Nat) × AVal) → Option (List ((Nat × Nat) × AVal))
  | [] => some []
  | (k, v) :: r => match oldHv base r with
    | some r => match Nat.ble (k.1 + 1) base with
      | true => match okU base v with | true => some ((k, v) :: r) | false => none
      | false => some r
    | none => none

def oldVv (base : Nat) : List (Nat × Vc) → List (Nat × Vc)
  | [] => []
  | (k, v) :: r => match Nat.ble (k + 1) base with
    | true => (k, v) :: oldVv base r
    | false => oldVv base r

structure Rt where
  v : AVal
  vs : List Vc
  hv : List ((Nat × Nat) × AVal)
  vv : List (Nat × Vc)

/-- What has become of a call: a panic, where a condition holds, or an answer. -/
structure FR where
  pn : Option (Bool × AVal)
  rt : Option Rt
  nd : Bool

def mergeRV (base : Nat) (b : Bool) : AVal → AVal → AVal
  | .vec i e a n, .vec i' e' a' n' => match Nat.beq i i' with
    | true => match Nat.ble (i + 1) base with
      | true => match Nat.beq e e' && Nat.beq a a' with
        | true => match sameNum a a' n n' with | true => .vec i e a n | false => .vec i e a (mergeNum b n n')
        | false => .bad
      | false => match Nat.beq a 0 && Nat.beq a' 0 with
        | true => match e, e' with
          | 0, e' => .vec i e' 0 (mergeNum b n n')
          | e, 0 => .vec i e 0 (mergeNum b n n')
          | e, e' => match Nat.beq e e' with | true => .vec i e 0 (mergeNum b n n') | false => .bad
        | false => .bad
    | false => .bad
  | .agg xs, .agg ys => match Nat.beq xs.length ys.length with | true => .agg (mergeRL base b xs ys) | false => .bad
  | .tuple xs, .tuple ys => match Nat.beq xs.length ys.length with | true => .tuple (mergeRL base b xs ys) | false => .bad
  | x, y => mergeV b x y
where
  mergeRL (base : Nat) (b : Bool) : List AVal → List AVal → List AVal
  | x :: xs, y :: ys => mergeRV base b x y :: mergeRL base b xs ys
  | _, _ => []

/-- Rows of one shape, or one that has none. -/
def okVr (v u : Vc) : Bool :=
  match v.sh, u.sh with
  | c :: sh, d :: sh' => eqSh (c :: sh) (d :: sh')
  | _, _ => true

def mergeVs (b : Bool) : List Vc → List Vc → Option (List Vc)
  | [], [] => some []
  | x :: xs, y :: ys => match okVr x y with
    | true => match mergeVs b xs ys with | some l => some (mergeVr b x y :: l) | none => none
    | false => none
  | _, _ => none

def blksOf : List Vc → List Blk
  | [] => []
  | v :: r => ⟨[], false, some v⟩ :: blksOf r

/-- What an answer does to the caller's memory. -/
def Rt.dl (x : Rt) : Dl := ⟨[], x.hv, x.vv, blksOf x.vs, [], true⟩

/-- Nothing put off. -/
def noDfs : List (AVal × List AVal) → Bool
  | [] => true
  | _ => false

/-- Nil as a piece of a row that is there, of no length. -/
def nilG (i e a : Nat) : AVal → AVal
  | .raw v => match v with | .slice none 0 0 => .vec i e a (.lit 0) | v => .raw v
  | .agg cs => .agg (nilL i e a cs)
  | .tuple cs => .tuple (nilL i e a cs)
  | x => x
where nilL (i e a : Nat) : List AVal → List AVal
  | [] => []
  | c :: r => nilG i e a c :: nilL i e a r

def nilZ : Option (Nat × Nat × Nat) → AVal → AVal
  | none, x => x
  | some (i, e, a), x => nilG i e a x

/-- The row of the first argument. -/
def zOf : List AVal → Option (Nat × Nat × Nat)
  | .agg (.vec i e a _ :: _) :: _ => some (i, e, a)
  | _ => none

/-- A way's end, where nothing is put off. 'ahv', 'avv': what has been written on the way to the last parting. -/
def leafT (P : Program) (z : Option (Nat × Nat × Nat)) (rs : List ResultVar) (base : Nat) (S : St) (e : Ex) (d : Dl) (ahv : List ((Nat × Nat) × AVal)) (avv : List (Nat × Vc)) : Option FR :=
  match noDfs (S.ext d).dfs with
  | true => match e with
    | .exit _ => none
    | .panic v => match v.flat with
      | true => match oldHv base (guardH base (d.hv ++ ahv)), oldVv base (d.vv ++ avv) with
        | some [], [] => some ⟨some (true, v), none, d.nd⟩
        | _, _ => none
      | false => none
    | _ => match getRes P (S.ext d) rs with
      | some vs => match normV base (S.ext d) (nilZ z (one vs)) ⟨[], [], true⟩, oldHv base (guardH base (d.hv ++ ahv)) with
        | some (v, m), some hv => some ⟨none, some ⟨v, m.vs, hv, oldVv base (d.vv ++ avv)⟩, cond d.nd m.nd false⟩
        | _, _ => none
      | none => none
  | false => none

def stuckF : FR := ⟨none, none, false⟩
def orStuckF : Option FR → FR
  | some t => t
  | none => stuckF

/-- Two ways' ends. 'S': the caller's state. -/
def mergeF (b : Bool) (S : St) (l r : FR) : Option FR :=
  let pn := match l.pn, r.pn with
    | none, none => none
    | some (p, v), none => some (cond b p false, v)
    | none, some (p, v) => some (cond b false p, v)
    | some (p, v), some (q, u) => some (cond b p q, mergeV b v u)
  match l.rt, r.rt with
  | none, none => some ⟨pn, none, ndc b l.nd r.nd⟩
  | some x, none => some ⟨pn, some x, ndc b l.nd r.nd⟩
  | none, some x => some ⟨pn, some x, ndc b l.nd r.nd⟩
  | some x, some y => match mergeVs b x.vs y.vs with
    | some vs => some ⟨pn, some ⟨mergeRV S.hp.length b x.v y.v, vs, (mergeD b S x.dl y.dl).hv, (mergeD b S x.dl y.dl).vv⟩, ndc b l.nd r.nd⟩
    | none => none

/-- The ends of all ways. 'S': the caller's state; 'T': where the tree begins. -/
def finT (lf : St → Ex → Dl → List ((Nat × Nat) × AVal) → List (Nat × Vc) → Option FR) (S : St) (T : St) (ahv : List ((Nat × Nat) × AVal)) (avv : List (Nat × Vc)) : Tr → Option FR
  | .leaf e d => lf T e d ahv avv
  | .node d b l r => match mergeF b S (orStuckF (finT lf S (T.ext d) (d.hv ++ ahv) (d.vv ++ avv) l)) (orStuckF (finT lf S (T.ext d) (d.hv ++ ahv) (d.vv ++ avv) r)) with
    | some f => some ⟨f.pn, f.rt, cond d.nd f.nd false⟩
    | none => none

def outOf (f : FR) : Option Out :=
  match f.rt with
  | some x => some ⟨x.v, x.hv, x.vv, blksOf x.vs, f.nd, f.pn⟩
  | none => match f.pn with
    | some p => some ⟨.raw undef, [], [], [], f.nd, some p⟩
    | none => none

def undefs : Nat → List AVal
  | 0 => []
  | n + 1 => .raw undef :: undefs n

/-- The state in which a body begins. -/
def St.start (S : St) (n : Nat) (args : List AVal) : St := ⟨args ++ undefs (Nat.sub n (lenL args)), [], S.hp, S.hvs, S.vvs, []⟩

/-- What becomes of a call. -/
noncomputable def evBody (P : Program) (Γ : List (Nat × Ctr)) (fuel : Nat) (fn : Func) (args : List AVal) (S : St) : Option Out :=
  match fn.body with
  | some c => match Nat.ble (lenL args) fn.ntmps with
    | true => match ev P Γ fn.ntmps fuel c (S.start fn.ntmps args) Dl.nil with
      | some t => match finT (leafT P none fn.results.toList S.hp.length) S (S.start fn.ntmps args) [] [] t with
        | some f => outOf f
        | none => none
      | none => none
    | false => none
  | none => none

/-- What becomes of a call that hands back a row that it has been given, or none. -/
noncomputable def evBodyZ (P : Program) (Γ : List (Nat × Ctr)) (fuel : Nat) (fn : Func) (args : List AVal) (S : St) : Option Out :=
  match fn.body with
  | some c => match Nat.ble (lenL args) fn.ntmps with
    | true => match zOf args with
      | some z => match ev P Γ fn.ntmps fuel c (S.start fn.ntmps args) Dl.nil with
        | some t => match finT (leafT P (some z) fn.results.toList S.hp.length) S (S.start fn.ntmps args) [] [] t with
          | some f => outOf f
          | none => none
        | none => none
      | none => none
    | false => none
  | none => none

noncomputable def inlZ (P : Program) (Γ : List (Nat × Ctr)) (fuel : Nat) (fn : Func) : Ctr := ⟨evBodyZ P Γ fuel fn, none⟩

/-- A function walked into where it is called. -/
noncomputable def inl (P : Program) (Γ : List (Nat × Ctr)) (fuel : Nat) (fn : Func) : Ctr := ⟨evBody P Γ fuel fn, none⟩

end Go.Ab

namespace Go.Ab
open Go Go.RowKit

/-! ### 1. What an abstract value says of a concrete one -/
def sameW (k : FloatKind) (b b' : Nat) : Prop := b' = b ∨ (isNaNW k b = true ∧ isNaNW k b' = true)

theorem sameW.refl (k : FloatKind) (b : Nat) : sameW k b b := Or.inl rfl

/-- The bits fit. -/
def wfW (k : FloatKind) (b : Nat) : Prop := b < wordTop k

/-- Where blocks lie, and how many elements there is room for. -/
structure Rho where
  p : Nat → Option (Nat × Nat)
  cap : Nat → Nat
  kn : Nat → Bool

instance : CoeFun Rho (fun _ => Nat → Option (Nat × Nat)) := ⟨Rho.p⟩

def Num.ok : Num → Prop
  | .ge lo n => lo ≤ n
  | _ => True

/-- A slice over a row. -/
def VecV (ρ : Rho) (i e a : Nat) (n : Num) (v : Value) : Prop :=
  n.ok ∧ ρ.kn i = true ∧ ∃ base c, v = .slice base n.val c ∧ ((c = 0 ∧ n.val = 0) ∨ (∃ r b, ρ i = some (r, b) ∧ base = some ⟨r, b + a * e, none⟩ ∧ c = ρ.cap i - a ∧ a + n.val ≤ ρ.cap i))

mutual
def V (ρ : Rho) : AVal → Value → Prop
  | .bad, _ => True
  | .bool b, v => v = .bool b
  | .sbool b, v => v = .bool b
  | .int k n, v => v = .int k n
  | .sint k n, v => v = .int k n
  | .cbool c b, v => ∃ b', v = .bool b' ∧ (c = true → b' = b)
  | .cint c k n, v => ∃ n', v = .int k n' ∧ (c = true → n' = n)
  | .flt k b, v => ∃ b', v = .float k b' ∧ sameW k b b' ∧ wfW k b ∧ wfW k b'
  | .lint k lo n, v => v = .int k (Int.ofNat n) ∧ lo ≤ n
  | .ptr i o, v => ∃ r b, ρ i = some (r, b) ∧ v = .pointer (some ⟨r, b + o, none⟩)
  | .vptr i e k o, v => ∃ r b, ρ i = some (r, b) ∧ v = .pointer (some ⟨r, b + (k * e + o), none⟩)
  | .vec i e a n, v => VecV ρ i e a n v
  | .fn f xs ys, v => ∃ us vs, v = .func f ⟨us⟩ ⟨vs⟩ ∧ VL ρ xs us ∧ VL ρ ys vs
  | .ifc t x, v => ∃ u, v = .iface t u ∧ V ρ x u
  | .slice i o l c, v => ∃ r b, ρ i = some (r, b) ∧ v = .slice (some ⟨r, b + o, none⟩) l c
  | .raw w, v => v = w
  | .agg cs, v => ∃ vs, v = .agg ⟨vs⟩ ∧ VL ρ cs vs
  | .tuple cs, v => ∃ vs, v = .tuple ⟨vs⟩ ∧ VL ρ cs vs
def VL (ρ : Rho) : List AVal → List Value → Prop
  | [], vs => vs = []
  | a :: as, vs => ∃ v vs', vs = v :: vs' ∧ V ρ a v ∧ VL ρ as vs'
end

structure Ext (ρ ρ' : Rho) : Prop where
  at_ : ∀ i p, ρ i = some p → ρ' i = some p ∧ ρ'.cap i = ρ.cap i
  kn : ∀ i, ρ.kn i = true → ρ'.kn i = true

theorem Ext.refl (ρ : Rho) : Ext ρ ρ := ⟨fun _ _ h => ⟨h, rfl⟩, fun _ h => h⟩
theorem Ext.trans {a b c : Rho} (h : Ext a b) (k : Ext b c) : Ext a c := ⟨fun i p x => ⟨(k.at_ i p (h.at_ i p x).1).1, (k.at_ i p (h.at_ i p x).1).2.trans (h.at_ i p x).2⟩, fun i x => k.kn i (h.kn i x)⟩

theorem VecV.ext {ρ ρ' : Rho} {i e a : Nat} {n : Num} {v : Value} (h : Ext ρ ρ') (k : VecV ρ i e a n v) : VecV ρ' i e a n v := by
  obtain ⟨hn, hk, base, c, hv, hc⟩ := k
  refine ⟨hn, h.kn _ hk, base, c, hv, ?_⟩
  rcases hc with hc | ⟨r, b, hr, hc⟩
  · exact Or.inl hc
  · obtain ⟨h1, h2⟩ := h.at_ _ _ hr
    refine Or.inr ⟨r, b, h1, ?_⟩
    rw [h2]; exact hc

mutual
theorem V_ext {ρ ρ' : Rho} (h : Ext ρ ρ') : ∀ (x : AVal) (v : Value), V ρ x v → V ρ' x v
  | .bad, _, _ => by unfold V; trivial
  | .bool _, _, k => by unfold V at *; exact k
  | .sbool _, _, k => by unfold V at *; exact k
  | .int _ _, _, k => by unfold V at *; exact k
  | .sint _ _, _, k => by unfold V at *; exact k
  | .cbool _ _, _, k => by unfold V at *; exact k
  | .cint _ _ _, _, k => by unfold V at *; exact k
  | .flt _ _, _, k => by unfold V at *; exact k
  | .lint _ _ _, _, k => by unfold V at *; exact k
  | .ptr _ _, _, k => by unfold V at *; obtain ⟨r, b, h1, h2⟩ := k; exact ⟨r, b, (h.at_ _ _ h1).1, h2⟩
  | .vptr _ _ _ _, _, k => by unfold V at *; obtain ⟨r, b, h1, h2⟩ := k; exact ⟨r, b, (h.at_ _ _ h1).1, h2⟩
  | .slice _ _ _ _, _, k => by unfold V at *; obtain ⟨r, b, h1, h2⟩ := k; exact ⟨r, b, (h.at_ _ _ h1).1, h2⟩
  | .vec _ _ _ _, _, k => by unfold V at *; exact k.ext h
  | .fn _ xs ys, _, k => by unfold V at *; obtain ⟨us, vs, h1, h2, h3⟩ := k; exact ⟨us, vs, h1, VL_ext h xs us h2, VL_ext h ys vs h3⟩
  | .ifc _ x, _, k => by unfold V at *; obtain ⟨u, h1, h2⟩ := k; exact ⟨u, h1, V_ext h x u h2⟩
  | .raw _, _, k => by unfold V at *; exact k
  | .agg cs, _, k => by unfold V at *; obtain ⟨vs, h1, h2⟩ := k; exact ⟨vs, h1, VL_ext h cs vs h2⟩
  | .tuple cs, _, k => by unfold V at *; obtain ⟨vs, h1, h2⟩ := k; exact ⟨vs, h1, VL_ext h cs vs h2⟩
theorem VL_ext {ρ ρ' : Rho} (h : Ext ρ ρ') : ∀ (xs : List AVal) (vs : List Value), VL ρ xs vs → VL ρ' xs vs
  | [], _, k => by unfold VL at *; exact k
  | x :: xs, _, k => by
    unfold VL at *
    obtain ⟨v, vs', h1, h2, h3⟩ := k
    exact ⟨v, vs', h1, V_ext h x v h2, VL_ext h xs vs' h3⟩
end

mutual
theorem V_flat {ρ ρ' : Rho} : ∀ (x : AVal) (v : Value), x.flat = true → V ρ x v → V ρ' x v
  | .bad, _, hf, _ => by simp [AVal.flat] at hf
  | .bool _, _, _, k => by unfold V at *; exact k
  | .sbool _, _, _, k => by unfold V at *; exact k
  | .int _ _, _, _, k => by unfold V at *; exact k
  | .sint _ _, _, _, k => by unfold V at *; exact k
  | .cbool _ _, _, _, k => by unfold V at *; exact k
  | .cint _ _ _, _, _, k => by unfold V at *; exact k
  | .flt _ _, _, _, k => by unfold V at *; exact k
  | .lint _ _ _, _, _, k => by unfold V at *; exact k
  | .ptr _ _, _, hf, _ => by simp [AVal.flat] at hf
  | .vptr _ _ _ _, _, hf, _ => by simp [AVal.flat] at hf
  | .slice _ _ _ _, _, hf, _ => by simp [AVal.flat] at hf
  | .vec _ _ _ _, _, hf, _ => by simp [AVal.flat] at hf
  | .fn _ xs ys, _, hf, k => by
    unfold V at *; obtain ⟨us, vs, h1, h2, h3⟩ := k
    unfold AVal.flat at hf
    split at hf
    · rename_i hx; exact ⟨us, vs, h1, VL_flat xs us hx h2, VL_flat ys vs hf h3⟩
    · cases hf
  | .ifc _ x, _, hf, k => by
    unfold V at *; obtain ⟨u, h1, h2⟩ := k
    exact ⟨u, h1, V_flat x u (by simpa [AVal.flat] using hf) h2⟩
  | .raw _, _, _, k => by unfold V at *; exact k
  | .agg cs, _, hf, k => by
    unfold V at *; obtain ⟨vs, h1, h2⟩ := k
    exact ⟨vs, h1, VL_flat cs vs (by simpa [AVal.flat] using hf) h2⟩
  | .tuple cs, _, hf, k => by
    unfold V at *; obtain ⟨vs, h1, h2⟩ := k
    exact ⟨vs, h1, VL_flat cs vs (by simpa [AVal.flat] using hf) h2⟩
theorem VL_flat {ρ ρ' : Rho} : ∀ (xs : List AVal) (vs : List Value), AVal.flat.flatL xs = true → VL ρ xs vs → VL ρ' xs vs
  | [], _, _, k => by unfold VL at *; exact k
  | x :: xs, _, hf, k => by
    unfold VL at *
    obtain ⟨v, vs', h1, h2, h3⟩ := k
    unfold AVal.flat.flatL at hf
    split at hf
    · rename_i hx; exact ⟨v, vs', h1, V_flat x v hx h2, VL_flat xs vs' hf h3⟩
    · cases hf
end

/-- The same where only blocks below a number are spoken of. -/
def Agr (n : Nat) (ρ ρ' : Rho) : Prop := ∀ i, i < n → (∀ p, ρ i = some p → ρ' i = some p ∧ ρ'.cap i = ρ.cap i) ∧ (ρ.kn i = true → ρ'.kn i = true)

theorem VecV.agr {ρ ρ' : Rho} {i e a m : Nat} {n : Num} {v : Value} (h : Agr m ρ ρ') (hi : i < m) (k : VecV ρ i e a n v) : VecV ρ' i e a n v := by
  obtain ⟨hn, hk, base, c, hv, hc⟩ := k
  refine ⟨hn, (h _ hi).2 hk, base, c, hv, ?_⟩
  rcases hc with hc | ⟨r, b, hr, hc⟩
  · exact Or.inl hc
  · obtain ⟨h1, h2⟩ := (h _ hi).1 _ hr
    refine Or.inr ⟨r, b, h1, ?_⟩
    rw [h2]; exact hc

mutual
theorem V_under {m : Nat} {ρ ρ' : Rho} (h : Agr m ρ ρ') : ∀ (x : AVal) (v : Value), x.under m = true → V ρ x v → V ρ' x v
  | .bad, _, hf, _ => by simp [AVal.under] at hf
  | .bool _, _, _, k => by unfold V at *; exact k
  | .sbool _, _, _, k => by unfold V at *; exact k
  | .int _ _, _, _, k => by unfold V at *; exact k
  | .sint _ _, _, _, k => by unfold V at *; exact k
  | .cbool _ _, _, _, k => by unfold V at *; exact k
  | .cint _ _ _, _, _, k => by unfold V at *; exact k
  | .flt _ _, _, _, k => by unfold V at *; exact k
  | .lint _ _ _, _, _, k => by unfold V at *; exact k
  | .ptr _ _, _, hf, k => by unfold V at *; obtain ⟨r, b, h1, h2⟩ := k; exact ⟨r, b, ((h _ (Nat.le_of_ble_eq_true hf)).1 _ h1).1, h2⟩
  | .vptr _ _ _ _, _, hf, k => by unfold V at *; obtain ⟨r, b, h1, h2⟩ := k; exact ⟨r, b, ((h _ (Nat.le_of_ble_eq_true hf)).1 _ h1).1, h2⟩
  | .slice _ _ _ _, _, hf, k => by unfold V at *; obtain ⟨r, b, h1, h2⟩ := k; exact ⟨r, b, ((h _ (Nat.le_of_ble_eq_true hf)).1 _ h1).1, h2⟩
  | .vec _ _ _ _, _, hf, k => by unfold V at *; exact k.agr h (Nat.le_of_ble_eq_true hf)
  | .raw _, _, _, k => by unfold V at *; exact k
  | .fn _ xs ys, _, hf, k => by
    unfold V at *; obtain ⟨us, vs, h1, h2, h3⟩ := k
    unfold AVal.under at hf
    split at hf
    · rename_i hx; exact ⟨us, vs, h1, VL_under h xs us hx h2, VL_under h ys vs hf h3⟩
    · cases hf
  | .ifc _ x, _, hf, k => by
    unfold V at *; obtain ⟨u, h1, h2⟩ := k
    exact ⟨u, h1, V_under h x u (by simpa [AVal.under] using hf) h2⟩
  | .agg cs, _, hf, k => by
    unfold V at *; obtain ⟨vs, h1, h2⟩ := k
    exact ⟨vs, h1, VL_under h cs vs (by simpa [AVal.under] using hf) h2⟩
  | .tuple cs, _, hf, k => by
    unfold V at *; obtain ⟨vs, h1, h2⟩ := k
    exact ⟨vs, h1, VL_under h cs vs (by simpa [AVal.under] using hf) h2⟩
theorem VL_under {m : Nat} {ρ ρ' : Rho} (h : Agr m ρ ρ') : ∀ (xs : List AVal) (vs : List Value), AVal.under.underL m xs = true → VL ρ xs vs → VL ρ' xs vs
  | [], _, _, k => by unfold VL at *; exact k
  | x :: xs, _, hf, k => by
    unfold VL at *
    obtain ⟨v, vs', h1, h2, h3⟩ := k
    unfold AVal.under.underL at hf
    split at hf
    · rename_i hx; exact ⟨v, vs', h1, V_under h x v hx h2, VL_under h xs vs' hf h3⟩
    · cases hf
end

/-- What was said of a value once is no more than what is known. -/
structure Known (n : Nat) (ρ ρ' : Rho) : Prop where
  at_ : ∀ i, i < n → ρ' i = ρ i
  cap : ∀ i p, i < n → ρ i = some p → ρ'.cap i = ρ.cap i
  dom : ∀ i p, ρ i = some p → i < n
  kdm : ∀ i, ρ.kn i = true → i < n

mutual
theorem V_back {n : Nat} {ρ ρ' : Rho} (h : Known n ρ ρ') : ∀ (x : AVal) (v v0 : Value), V ρ x v0 → V ρ' x v → V ρ x v
  | .bad, _, _, _, _ => by unfold V; trivial
  | .bool _, _, _, _, k => by unfold V at *; exact k
  | .sbool _, _, _, _, k => by unfold V at *; exact k
  | .int _ _, _, _, _, k => by unfold V at *; exact k
  | .sint _ _, _, _, _, k => by unfold V at *; exact k
  | .cbool _ _, _, _, _, k => by unfold V at *; exact k
  | .cint _ _ _, _, _, _, k => by unfold V at *; exact k
  | .flt _ _, _, _, _, k => by unfold V at *; exact k
  | .lint _ _ _, _, _, _, k => by unfold V at *; exact k
  | .raw _, _, _, _, k => by unfold V at *; exact k
  | .ptr i o, _, _, k0, k => by
    unfold V at *
    obtain ⟨r0, b0, g1, _⟩ := k0
    obtain ⟨r, b, h1, h2⟩ := k
    exact ⟨r, b, by rw [← h.at_ i (h.dom _ _ g1)]; exact h1, h2⟩
  | .vptr i _ _ _, _, _, k0, k => by
    unfold V at *
    obtain ⟨r0, b0, g1, _⟩ := k0
    obtain ⟨r, b, h1, h2⟩ := k
    exact ⟨r, b, by rw [← h.at_ i (h.dom _ _ g1)]; exact h1, h2⟩
  | .slice i _ _ _, _, _, k0, k => by
    unfold V at *
    obtain ⟨r0, b0, g1, _⟩ := k0
    obtain ⟨r, b, h1, h2⟩ := k
    exact ⟨r, b, by rw [← h.at_ i (h.dom _ _ g1)]; exact h1, h2⟩
  | .vec i e a m, _, _, k0, k => by
    unfold V at *
    obtain ⟨_, g1, _⟩ := k0
    obtain ⟨hn, hk, base, c, hv, hc⟩ := k
    have hi := h.kdm _ g1
    refine ⟨hn, g1, base, c, hv, ?_⟩
    rcases hc with hc | ⟨r, b, hr, hc⟩
    · exact Or.inl hc
    · have hr' : ρ i = some (r, b) := by rw [← h.at_ i hi]; exact hr
      refine Or.inr ⟨r, b, hr', ?_⟩
      rw [← h.cap i _ hi hr']; exact hc
  | .fn _ xs ys, _, _, k0, k => by
    unfold V at *
    obtain ⟨u0, w0, _, g1, g2⟩ := k0
    obtain ⟨us, vs, h1, h2, h3⟩ := k
    exact ⟨us, vs, h1, VL_back h xs us u0 g1 h2, VL_back h ys vs w0 g2 h3⟩
  | .ifc _ x, _, _, k0, k => by
    unfold V at *
    obtain ⟨u0, _, g1⟩ := k0
    obtain ⟨u, h1, h2⟩ := k
    exact ⟨u, h1, V_back h x u u0 g1 h2⟩
  | .agg cs, _, _, k0, k => by
    unfold V at *
    obtain ⟨u0, _, g1⟩ := k0
    obtain ⟨u, h1, h2⟩ := k
    exact ⟨u, h1, VL_back h cs u u0 g1 h2⟩
  | .tuple cs, _, _, k0, k => by
    unfold V at *
    obtain ⟨u0, _, g1⟩ := k0
    obtain ⟨u, h1, h2⟩ := k
    exact ⟨u, h1, VL_back h cs u u0 g1 h2⟩
theorem VL_back {n : Nat} {ρ ρ' : Rho} (h : Known n ρ ρ') : ∀ (xs : List AVal) (vs v0 : List Value), VL ρ xs v0 → VL ρ' xs vs → VL ρ xs vs
  | [], _, _, _, k => by unfold VL at *; exact k
  | x :: xs, _, _, k0, k => by
    unfold VL at *
    obtain ⟨u0, us0, _, g1, g2⟩ := k0
    obtain ⟨v, vs', h1, h2, h3⟩ := k
    exact ⟨v, vs', h1, V_back h x v u0 g1 h2, VL_back h xs vs' us0 g2 h3⟩
end

theorem VL_length {ρ : Rho} : ∀ (xs : List AVal) (vs : List Value), VL ρ xs vs → vs.length = xs.length
  | [], _, k => by unfold VL at k; simp [k]
  | x :: xs, _, k => by
    unfold VL at k
    obtain ⟨v, vs', h1, _, h3⟩ := k
    simp [h1, VL_length xs vs' h3]

theorem VL_nth {ρ : Rho} : ∀ (xs : List AVal) (vs : List Value), VL ρ xs vs → ∀ i, i < xs.length → ∃ v, vs[i]? = some v ∧ V ρ (nth i xs) v
  | [], _, _, i, hi => by simp at hi
  | x :: xs, _, k, i, hi => by
    unfold VL at k
    obtain ⟨v, vs', h1, h2, h3⟩ := k
    subst h1
    cases i with
    | zero => exact ⟨v, rfl, h2⟩
    | succ i =>
      obtain ⟨u, hu, hv⟩ := VL_nth xs vs' h3 i (by simpa using hi)
      exact ⟨u, by simpa using hu, hv⟩

theorem VL_append {ρ : Rho} : ∀ (xs : List AVal) (vs : List Value) (ys : List AVal) (us : List Value), VL ρ xs vs → VL ρ ys us → VL ρ (xs ++ ys) (vs ++ us)
  | [], _, ys, us, k, h => by unfold VL at k; subst k; simpa using h
  | x :: xs, _, ys, us, k, h => by
    unfold VL at k
    obtain ⟨v, vs', h1, h2, h3⟩ := k
    subst h1
    simp only [List.cons_append]
    unfold VL
    exact ⟨v, vs' ++ us, rfl, h2, VL_append xs vs' ys us h3 h⟩

theorem VL_drop {ρ : Rho} : ∀ (n : Nat) (xs : List AVal) (vs : List Value), VL ρ xs vs → VL ρ (xs.drop n) (vs.drop n)
  | 0, _, _, k => by simpa using k
  | n + 1, [], _, k => by unfold VL at k; subst k; simp [VL]
  | n + 1, x :: xs, _, k => by
    unfold VL at k
    obtain ⟨v, vs', h1, _, h3⟩ := k
    subst h1
    simpa using VL_drop n xs vs' h3

theorem VL_take {ρ : Rho} : ∀ (n : Nat) (xs : List AVal) (vs : List Value), VL ρ xs vs → VL ρ (xs.take n) (vs.take n)
  | 0, _, _, _ => by simp [VL]
  | n + 1, [], _, k => by unfold VL at k; subst k; simp [VL]
  | n + 1, x :: xs, _, k => by
    unfold VL at k
    obtain ⟨v, vs', h1, h2, h3⟩ := k
    subst h1
    simp only [List.take_succ_cons]
    unfold VL
    exact ⟨v, _, rfl, h2, VL_take n xs vs' h3⟩

theorem VL_set {ρ : Rho} : ∀ (xs : List AVal) (vs : List Value) (i : Nat) (x : AVal) (v : Value), VL ρ xs vs → V ρ x v → VL ρ (xs.set i x) (vs.set i v)
  | [], _, _, _, _, k, _ => by unfold VL at k; subst k; simp [VL]
  | y :: ys, _, i, x, v, k, h => by
    unfold VL at k
    obtain ⟨u, us, h1, h2, h3⟩ := k
    subst h1
    cases i with
    | zero => simp only [List.set_cons_zero]; unfold VL; exact ⟨v, us, rfl, h, h3⟩
    | succ i => simp only [List.set_cons_succ]; unfold VL; exact ⟨u, _, rfl, h2, VL_set ys us i x v h3 h⟩

theorem V_absV (ρ : Rho) (v : Value) : V ρ (absV v) v := by
  cases v with
  | float k b =>
    simp only [absV]
    split
    · rename_i h
      have h := Nat.le_of_ble_eq_true h
      unfold V
      exact ⟨b, rfl, sameW.refl _ _, h, h⟩
    · simp [V]
  | _ => simp [absV, V]

theorem VL_absC (ρ : Rho) : ∀ cs : List Value, VL ρ (absC cs) cs
  | [] => by simp [absC, VL]
  | c :: cs => by
    show VL ρ (absV c :: absC cs) (c :: cs)
    unfold VL
    exact ⟨c, cs, rfl, V_absV ρ c, VL_absC ρ cs⟩

/-- The cells of a value. -/
theorem V_cells {ρ : Rho} {x : AVal} {v : Value} (h : V ρ x v) (hb : ∀ vs, x ≠ .tuple vs) (hbad : x ≠ .bad) (hraw : ∀ u, x = .raw u → u.oneCell' = true) : VL ρ x.cells v.cells.toList := by
  cases x with
  | bad => exact absurd rfl hbad
  | agg cs =>
    unfold V at h
    obtain ⟨vs, rfl, h2⟩ := h
    simpa [AVal.cells, Value.cells] using h2
  | tuple cs => exact absurd rfl (hb cs)
  | raw u =>
    have h0 := h
    unfold V at h
    subst h
    have := hraw _ rfl
    cases v <;> first | (simp [Value.oneCell'] at this; done) | (simp only [AVal.cells, Value.cells]; unfold VL; exact ⟨_, [], rfl, h0, by simp [VL]⟩)
  | bool _ => have h0 := h; unfold V at h; subst h; simp only [AVal.cells, Value.cells]; unfold VL; exact ⟨_, [], rfl, h0, by simp [VL]⟩
  | sbool _ => have h0 := h; unfold V at h; subst h; simp only [AVal.cells, Value.cells]; unfold VL; exact ⟨_, [], rfl, h0, by simp [VL]⟩
  | int _ _ => have h0 := h; unfold V at h; subst h; simp only [AVal.cells, Value.cells]; unfold VL; exact ⟨_, [], rfl, h0, by simp [VL]⟩
  | sint _ _ => have h0 := h; unfold V at h; subst h; simp only [AVal.cells, Value.cells]; unfold VL; exact ⟨_, [], rfl, h0, by simp [VL]⟩
  | cbool _ _ => have h0 := h; unfold V at h; obtain ⟨b', rfl, _⟩ := h; simp only [AVal.cells, Value.cells]; unfold VL; exact ⟨_, [], rfl, h0, by simp [VL]⟩
  | cint _ _ _ => have h0 := h; unfold V at h; obtain ⟨b', rfl, _⟩ := h; simp only [AVal.cells, Value.cells]; unfold VL; exact ⟨_, [], rfl, h0, by simp [VL]⟩
  | flt _ _ => have h0 := h; unfold V at h; obtain ⟨b', rfl, _⟩ := h; simp only [AVal.cells, Value.cells]; unfold VL; exact ⟨_, [], rfl, h0, by simp [VL]⟩
  | ptr _ _ => have h0 := h; unfold V at h; obtain ⟨_, _, _, rfl⟩ := h; simp only [AVal.cells, Value.cells]; unfold VL; exact ⟨_, [], rfl, h0, by simp [VL]⟩
  | slice _ _ _ _ => have h0 := h; unfold V at h; obtain ⟨_, _, _, rfl⟩ := h; simp only [AVal.cells, Value.cells]; unfold VL; exact ⟨_, [], rfl, h0, by simp [VL]⟩
  | lint _ _ _ => have h0 := h; unfold V at h; obtain ⟨rfl, _⟩ := h; simp only [AVal.cells, Value.cells]; unfold VL; exact ⟨_, [], rfl, h0, by simp [VL]⟩
  | vptr _ _ _ _ => have h0 := h; unfold V at h; obtain ⟨_, _, _, rfl⟩ := h; simp only [AVal.cells, Value.cells]; unfold VL; exact ⟨_, [], rfl, h0, by simp [VL]⟩
  | vec _ _ _ _ => have h0 := h; unfold V at h; obtain ⟨_, _, _, _, rfl, _⟩ := h; simp only [AVal.cells, Value.cells]; unfold VL; exact ⟨_, [], rfl, h0, by simp [VL]⟩
  | fn _ _ _ => have h0 := h; unfold V at h; obtain ⟨_, _, rfl, _⟩ := h; simp only [AVal.cells, Value.cells]; unfold VL; exact ⟨_, [], rfl, h0, by simp [VL]⟩
  | ifc _ _ => have h0 := h; unfold V at h; obtain ⟨_, rfl, _⟩ := h; simp only [AVal.cells, Value.cells]; unfold VL; exact ⟨_, [], rfl, h0, by simp [VL]⟩

theorem V_oneA {ρ : Rho} {x : AVal} {v : Value} (h : V ρ x v) (hx : x.oneA = true) : v.oneCell' = true := by
  cases x <;> simp only [AVal.oneA] at hx <;> try (cases hx; done)
  all_goals (unfold V at h)
  all_goals first
    | (subst h; first | exact hx | rfl)
    | (obtain ⟨_, rfl, _⟩ := h; rfl)
    | (obtain ⟨_, _, _, rfl⟩ := h; rfl)
    | (obtain ⟨rfl, _⟩ := h; rfl)
    | (obtain ⟨_, _, _, _, rfl, _⟩ := h; rfl)
    | (obtain ⟨_, _, rfl, _⟩ := h; rfl)

mutual
theorem mergeV_true {ρ : Rho} : ∀ (x y : AVal) (v : Value), V ρ x v → V ρ (mergeV true x y) v
  | .bad, y, v, _ => by simp [mergeV, V]
  | .bool a, y, v, h => by cases y <;> simp_all [mergeV, V]
  | .sbool a, y, v, h => by cases y <;> simp_all [mergeV, V]
  | .int k n, y, v, h => by
    cases y <;> simp only [mergeV] <;> try (simp [V]; done)
    all_goals (split <;> try (simp [V]; done))
    · split <;> simpa [V] using h
    all_goals (simpa [V] using h)
  | .sint k n, y, v, h => by
    cases y <;> simp only [mergeV] <;> try (simp [V]; done)
    all_goals (split <;> try (simp [V]; done))
    all_goals (simpa [V] using h)
  | .cbool c a, y, v, h => by cases y <;> simp only [mergeV] <;> first | (simp [V]; done) | simpa [V] using h
  | .cint c k n, y, v, h => by
    cases y <;> simp only [mergeV] <;> try (simp [V]; done)
    all_goals (split <;> try (simp [V]; done))
    all_goals (simpa [V] using h)
  | .flt k n, y, v, h => by
    cases y <;> simp only [mergeV] <;> try (simp [V]; done)
    split
    · simpa [V] using h
    · simp [V]
  | .ptr i o, y, v, h => by
    cases y <;> simp only [mergeV] <;> try (simp [V]; done)
    split
    · simpa [V] using h
    · simp [V]
  | .slice i o l c, y, v, h => by
    cases y <;> simp only [mergeV] <;> try (simp [V]; done)
    split
    · simpa [V] using h
    · simp [V]
  | .lint k lo n, y, v, h => by
    cases y <;> simp only [mergeV] <;> try (simp [V]; done)
    all_goals (split <;> try (simp [V]; done))
    all_goals (unfold V at h ⊢; exact h.1)
  | .vptr i e k o, y, v, h => by cases y <;> simp [mergeV, V]
  | .vec i e a n, y, v, h => by
    cases y <;> simp only [mergeV] <;> try (simp [V]; done)
    split <;> try (simp [V]; done)
    split <;> try (simp [V]; done)
    exact h
  | .fn f xs ys, y, v, h => by
    cases y <;> simp only [mergeV] <;> try (simp [V]; done)
    rename_i f' xs' ys'
    split
    · rename_i hl
      simp only [Bool.and_eq_true] at hl
      unfold V at h ⊢
      obtain ⟨us, vs, h1, h2, h3⟩ := h
      exact ⟨us, vs, h1, mergeL_true xs xs' us (Nat.eq_of_beq_eq_true hl.1.2) h2, mergeL_true ys ys' vs (Nat.eq_of_beq_eq_true hl.2) h3⟩
    · simp [V]
  | .ifc t x, y, v, h => by
    cases y <;> simp only [mergeV] <;> try (simp [V]; done)
    split
    · unfold V at h ⊢
      obtain ⟨u, h1, h2⟩ := h
      exact ⟨u, h1, mergeV_true x _ u h2⟩
    · simp [V]
  | .raw u, y, v, h => by cases y <;> simp [mergeV, V]
  | .agg xs, y, v, h => by
    cases y <;> simp only [mergeV] <;> try (simp [V]; done)
    rename_i ys
    split
    · rename_i hl
      unfold V at h ⊢
      obtain ⟨vs, h1, h2⟩ := h
      exact ⟨vs, h1, mergeL_true xs ys vs (Nat.eq_of_beq_eq_true hl) h2⟩
    · simp [V]
  | .tuple xs, y, v, h => by
    cases y <;> simp only [mergeV] <;> try (simp [V]; done)
    rename_i ys
    split
    · rename_i hl
      unfold V at h ⊢
      obtain ⟨vs, h1, h2⟩ := h
      exact ⟨vs, h1, mergeL_true xs ys vs (Nat.eq_of_beq_eq_true hl) h2⟩
    · simp [V]
theorem mergeL_true {ρ : Rho} : ∀ (xs ys : List AVal) (vs : List Value), xs.length = ys.length → VL ρ xs vs → VL ρ (mergeV.mergeL true xs ys) vs
  | [], _, vs, _, h => by simpa [mergeV.mergeL] using h
  | x :: xs, [], vs, hl, _ => by simp at hl
  | x :: xs, y :: ys, vs, hl, h => by
    simp only [mergeV.mergeL]
    unfold VL at h ⊢
    obtain ⟨v, vs', h1, h2, h3⟩ := h
    exact ⟨v, vs', h1, mergeV_true x y v h2, mergeL_true xs ys vs' (by simpa using hl) h3⟩
end

mutual
theorem mergeV_false {ρ : Rho} : ∀ (x y : AVal) (v : Value), V ρ y v → V ρ (mergeV false x y) v
  | .bad, y, v, _ => by simp [mergeV, V]
  | .bool a, y, v, h => by cases y <;> simp_all [mergeV, V]
  | .sbool a, y, v, h => by cases y <;> simp_all [mergeV, V]
  | .int k n, y, v, h => by
    cases y <;> simp only [mergeV] <;> try (simp [V]; done)
    all_goals (split <;> try (simp [V]; done))
    all_goals (rename_i hk; have hk := of_decide_eq_true hk; subst hk)
    · split
      · rename_i he; have he := of_decide_eq_true he; subst he; simpa [V] using h
      · simpa [V] using h
    all_goals (first | (simpa [V] using h) | (unfold V at h ⊢; exact h.1))
  | .sint k n, y, v, h => by
    cases y <;> simp only [mergeV] <;> try (simp [V]; done)
    all_goals (split <;> try (simp [V]; done))
    all_goals (rename_i hk; have hk := of_decide_eq_true hk; subst hk; first | (simpa [V] using h) | (unfold V at h ⊢; exact h.1))
  | .cbool c a, y, v, h => by cases y <;> simp only [mergeV] <;> first | (simp [V]; done) | simpa [V] using h
  | .cint c k n, y, v, h => by
    cases y <;> simp only [mergeV] <;> try (simp [V]; done)
    all_goals (split <;> try (simp [V]; done))
    all_goals (rename_i hk; have hk := of_decide_eq_true hk; subst hk; first | (simpa [V] using h) | (unfold V at h ⊢; exact h.1))
  | .flt k n, y, v, h => by
    cases y <;> simp only [mergeV] <;> try (simp [V]; done)
    split
    · rename_i hk; have hk := of_decide_eq_true hk; subst hk; simpa [V] using h
    · simp [V]
  | .ptr i o, y, v, h => by
    cases y <;> simp only [mergeV] <;> try (simp [V]; done)
    split
    · rename_i hk
      simp only [Bool.and_eq_true] at hk
      have h1 := Nat.eq_of_beq_eq_true hk.1
      have h2 := Nat.eq_of_beq_eq_true hk.2
      subst h1; subst h2; exact h
    · simp [V]
  | .slice i o l c, y, v, h => by
    cases y <;> simp only [mergeV] <;> try (simp [V]; done)
    split
    · rename_i hk
      simp only [Bool.and_eq_true] at hk
      have h1 := Nat.eq_of_beq_eq_true hk.1.1.1
      have h2 := Nat.eq_of_beq_eq_true hk.1.1.2
      have h3 := Nat.eq_of_beq_eq_true hk.1.2
      have h4 := Nat.eq_of_beq_eq_true hk.2
      subst h1; subst h2; subst h3; subst h4; exact h
    · simp [V]
  | .lint k lo n, y, v, h => by
    cases y <;> simp only [mergeV] <;> try (simp [V]; done)
    all_goals (split <;> try (simp [V]; done))
    all_goals (rename_i hk; have hk := of_decide_eq_true hk; subst hk)
    all_goals (unfold V at h ⊢; first | exact h | exact h.1)
  | .vptr i e k o, y, v, h => by cases y <;> simp [mergeV, V]
  | .vec i e a n, y, v, h => by
    cases y <;> simp only [mergeV] <;> try (simp [V]; done)
    rename_i i' e' a' n'
    split <;> try (simp [V]; done)
    rename_i hk
    split <;> try (simp [V]; done)
    rename_i hn
    simp only [Bool.and_eq_true] at hk
    have h1 := Nat.eq_of_beq_eq_true hk.1
    have h2 := Nat.eq_of_beq_eq_true hk.2
    subst h1; subst h2
    unfold sameNum at hn
    split at hn
    · simp only [Bool.and_eq_true] at hn
      have h3 := Nat.eq_of_beq_eq_true hn.1
      have h4 := Nat.eq_of_beq_eq_true hn.2
      subst h3; subst h4; exact h
    · cases hn
  | .fn f xs ys, y, v, h => by
    cases y <;> simp only [mergeV] <;> try (simp [V]; done)
    rename_i f' xs' ys'
    split
    · rename_i hl
      simp only [Bool.and_eq_true] at hl
      have hf : f = f' := by
        have := hl.1.1
        unfold sameFn at this
        split at this
        · rw [Nat.eq_of_beq_eq_true this]
        · cases this
      subst hf
      unfold V at h ⊢
      obtain ⟨us, vs, h1, h2, h3⟩ := h
      exact ⟨us, vs, h1, mergeL_false xs xs' us (Nat.eq_of_beq_eq_true hl.1.2) h2, mergeL_false ys ys' vs (Nat.eq_of_beq_eq_true hl.2) h3⟩
    · simp [V]
  | .ifc t x, y, v, h => by
    cases y <;> simp only [mergeV] <;> try (simp [V]; done)
    split
    · rename_i ht
      have ht := Nat.eq_of_beq_eq_true ht
      subst ht
      unfold V at h ⊢
      obtain ⟨u, h1, h2⟩ := h
      exact ⟨u, h1, mergeV_false x _ u h2⟩
    · simp [V]
  | .raw u, y, v, h => by cases y <;> simp [mergeV, V]
  | .agg xs, y, v, h => by
    cases y <;> simp only [mergeV] <;> try (simp [V]; done)
    rename_i ys
    split
    · rename_i hl
      unfold V at h ⊢
      obtain ⟨vs, h1, h2⟩ := h
      exact ⟨vs, h1, mergeL_false xs ys vs (Nat.eq_of_beq_eq_true hl) h2⟩
    · simp [V]
  | .tuple xs, y, v, h => by
    cases y <;> simp only [mergeV] <;> try (simp [V]; done)
    rename_i ys
    split
    · rename_i hl
      unfold V at h ⊢
      obtain ⟨vs, h1, h2⟩ := h
      exact ⟨vs, h1, mergeL_false xs ys vs (Nat.eq_of_beq_eq_true hl) h2⟩
    · simp [V]
theorem mergeL_false {ρ : Rho} : ∀ (xs ys : List AVal) (vs : List Value), xs.length = ys.length → VL ρ ys vs → VL ρ (mergeV.mergeL false xs ys) vs
  | [], [], vs, _, h => by simpa [mergeV.mergeL] using h
  | [], y :: ys, vs, hl, _ => by simp at hl
  | x :: xs, [], vs, hl, _ => by simp at hl
  | x :: xs, y :: ys, vs, hl, h => by
    simp only [mergeV.mergeL]
    unfold VL at h ⊢
    obtain ⟨v, vs', h1, h2, h3⟩ := h
    exact ⟨v, vs', h1, mergeV_false x y v h2, mergeL_false xs ys vs' (by simpa using hl) h3⟩
end

theorem mergeV_sound {ρ : Rho} (b : Bool) (x y : AVal) (v : Value) (h : V ρ (if b then x else y) v) : V ρ (mergeV b x y) v := by
  cases b
  · exact mergeV_false x y v (by simpa using h)
  · exact mergeV_true x y v (by simpa using h)

end Go.Ab

namespace Go.Ab
open Go Go.RowKit

/-! ### 2. Floats -/
theorem read_nan_bits32 (t : Nat) : isNaNW .f32 ((t % 2) * 2 ^ 31 + 0x7f800000 + 1 + (t / 2) % (2 ^ 23 - 1)) = true := by
  have h1 : (t / 2) % (2 ^ 23 - 1) < 2 ^ 23 - 1 := Nat.mod_lt _ (by decide)
  have h2 : t % 2 < 2 := Nat.mod_lt _ (by decide)
  generalize (t / 2) % (2 ^ 23 - 1) = r at *
  generalize t % 2 = s at *
  have e : (s * 2 ^ 31 + 0x7f800000 + 1 + r) % 2 ^ 31 = 0x7f800000 + 1 + r := by omega
  show (Ieee.Format.read Ieee.single _).isNaN = true
  have hs : Ieee.single.signWeight = 2 ^ 31 := rfl
  have hb : Ieee.single.binade = 2 ^ 23 := rfl
  have hi : Ieee.single.infRung = 0x7f800000 := rfl
  simp only [Ieee.Format.read, hs, hb, hi, e]
  rw [if_neg (by omega), if_neg (by omega), if_neg (by omega)]
  rfl

theorem read_nan_bits64 (t : Nat) : isNaNW .f64 ((t % 2) * 2 ^ 63 + 0x7ff0000000000000 + 1 + (t / 2) % (2 ^ 52 - 1)) = true := by
  have h1 : (t / 2) % (2 ^ 52 - 1) < 2 ^ 52 - 1 := Nat.mod_lt _ (by decide)
  have h2 : t % 2 < 2 := Nat.mod_lt _ (by decide)
  generalize (t / 2) % (2 ^ 52 - 1) = r at *
  generalize t % 2 = s at *
  have e : (s * 2 ^ 63 + 0x7ff0000000000000 + 1 + r) % 2 ^ 63 = 0x7ff0000000000000 + 1 + r := by omega
  show (Ieee.Format.read Ieee.double _).isNaN = true
  have hs : Ieee.double.signWeight = 2 ^ 63 := rfl
  have hb : Ieee.double.binade = 2 ^ 52 := rfl
  have hi : Ieee.double.infRung = 0x7ff0000000000000 := rfl
  simp only [Ieee.Format.read, hs, hb, hi, e]
  rw [if_neg (by omega), if_neg (by omega), if_neg (by omega)]
  rfl

theorem nanW_isNaN (k : FloatKind) : isNaNW k (nanW k) = true := by cases k <;> rfl

theorem cut_nanBits (k : FloatKind) (x y t : Nat) : isNaNW k ((Question.nanBits k x y).cut t) = true := by
  cases k
  · exact read_nan_bits32 t
  · exact read_nan_bits64 t
theorem cut_nanConv (k : FloatKind) (x t : Nat) : isNaNW k ((Question.nanConv k x).cut t) = true := by
  cases k
  · exact read_nan_bits32 t
  · exact read_nan_bits64 t
theorem cut_nanMinMax (k : FloatKind) (m : Bool) (x y t : Nat) : isNaNW k ((Question.nanMinMax k m x y).cut t) = true := by
  cases k
  · exact read_nan_bits32 t
  · exact read_nan_bits64 t

theorem isNaN_read {k : FloatKind} {b : Nat} (h : isNaNW k b = true) : ∃ s f, k.format.read b = .nan s f := by
  unfold isNaNW at h
  cases hr : k.format.read b with
  | nan s f => exact ⟨s, f, rfl⟩
  | number _ _ _ => rw [hr] at h; simp [Ieee.Datum.isNaN] at h
  | infinity _ => rw [hr] at h; simp [Ieee.Datum.isNaN] at h

theorem floatBits_nan_left {op : BinOp} {k : FloatKind} {x : Nat} (y : Nat) (h : isNaNW k x = true) : floatBits op k x y = none := by
  obtain ⟨s, f, hr⟩ := isNaN_read h
  cases op <;> simp [floatBits, Ieee.Format.add, Ieee.Format.sub, Ieee.Format.mul, Ieee.Format.div, hr, Ieee.Datum.sum, Ieee.Datum.product, Ieee.Datum.quotient]

theorem floatBits_nan_right {op : BinOp} {k : FloatKind} {y : Nat} (x : Nat) (h : isNaNW k y = true) : floatBits op k x y = none := by
  obtain ⟨s, f, hr⟩ := isNaN_read h
  cases op <;> simp only [floatBits, Ieee.Format.add, Ieee.Format.sub, Ieee.Format.mul, Ieee.Format.div, hr, Ieee.Datum.opposite] <;>
    (cases k.format.read x <;> simp [Ieee.Datum.sum, Ieee.Datum.product, Ieee.Datum.quotient])

theorem order_nan_left {k : FloatKind} {x : Nat} (y : Nat) (h : isNaNW k x = true) : k.format.order x y = none := by
  obtain ⟨s, f, hr⟩ := isNaN_read h
  simp [Ieee.Format.order, hr, Ieee.Datum.order]
theorem order_nan_right {k : FloatKind} {y : Nat} (x : Nat) (h : isNaNW k y = true) : k.format.order x y = none := by
  obtain ⟨s, f, hr⟩ := isNaN_read h
  simp only [Ieee.Format.order, hr]
  cases k.format.read x <;> simp [Ieee.Datum.order]

theorem floatBits_same {op : BinOp} {k : FloatKind} {x x' y y' : Nat} (hx : sameW k x x') (hy : sameW k y y') : floatBits op k x' y' = floatBits op k x y := by
  rcases hx with rfl | ⟨h1, h2⟩
  · rcases hy with rfl | ⟨h3, h4⟩
    · rfl
    · rw [floatBits_nan_right _ h4, floatBits_nan_right _ h3]
  · rw [floatBits_nan_left _ h2, floatBits_nan_left _ h1]

theorem order_same {k : FloatKind} {x x' y y' : Nat} (hx : sameW k x x') (hy : sameW k y y') : k.format.order x' y' = k.format.order x y := by
  rcases hx with rfl | ⟨h1, h2⟩
  · rcases hy with rfl | ⟨h3, h4⟩
    · rfl
    · rw [order_nan_right _ h4, order_nan_right _ h3]
  · rw [order_nan_left _ h2, order_nan_left _ h1]

theorem Datum_order_swap (a b : Ieee.Datum) : b.order a = (a.order b).map Ordering.swap := by
  cases a <;> cases b <;> simp only [Ieee.Datum.order, Option.map_none, Option.map_some] <;> try rfl
  · rename_i s m i t n j
    rw [Int.min_comm j i]
    congr 1
    exact (Int.compare_swap ..).symm
  · rename_i s m i t
    cases t <;> rfl
  · rename_i s t n j
    cases s <;> rfl
  · congr 1
    exact (Nat.compare_swap ..).symm

theorem order_swap (k : FloatKind) (x y : Nat) : k.format.order y x = (k.format.order x y).map Ordering.swap := Datum_order_swap _ _

theorem order_gt (k : FloatKind) (x y : Nat) : (k.format.order x y == some .gt) = (k.format.order y x == some .lt) := by
  rw [order_swap k x y]
  cases k.format.order x y with
  | none => rfl
  | some o => cases o <;> rfl
theorem order_eq_symm (k : FloatKind) (x y : Nat) : (k.format.order x y == some .eq) = (k.format.order y x == some .eq) := by
  rw [order_swap k x y]
  cases k.format.order x y with
  | none => rfl
  | some o => cases o <;> rfl

theorem single_number {x : Nat} {s : Bool} {m : Nat} {e : Int} (h : FloatKind.f32.format.read x = .number s m e) : m < 2 ^ 24 ∧ -149 ≤ e ∧ e ≤ 104 := by
  have hs : Ieee.single.signWeight = 2 ^ 31 := rfl
  have hb : Ieee.single.binade = 2 ^ 23 := rfl
  have hi : Ieee.single.infRung = 0x7f800000 := rfl
  have hl : Ieee.single.leastPlace = -149 := rfl
  change Ieee.Format.read Ieee.single x = _ at h
  simp only [Ieee.Format.read, hs, hb, hi, hl] at h
  split at h
  · rename_i h1
    simp only [Ieee.Datum.number.injEq] at h
    obtain ⟨_, rfl, rfl⟩ := h
    omega
  · split at h
    · rename_i h1 h2
      simp only [Ieee.Datum.number.injEq] at h
      obtain ⟨_, rfl, rfl⟩ := h
      omega
    · split at h <;> cases h

theorem wide_finite {x : Nat} {s : Bool} {m : Nat} {e : Int} (h : FloatKind.f32.format.read x = .number s m e) :
    (FloatKind.f64.format.read (FloatKind.f64.encode (.number s m e))).isInfinity = false := by
  obtain ⟨hm, he1, he2⟩ := single_number h
  have hs : Ieee.double.signWeight = 2 ^ 63 := rfl
  have hb : Ieee.double.binade = 2 ^ 52 := rfl
  have hi : Ieee.double.infRung = 2047 * 2 ^ 52 := rfl
  have hl : Ieee.double.leastPlace = -1074 := rfl
  have hf : Ieee.double.fractionBits = 52 := rfl
  -- any word whose rung lies below infinity's
  have key : ∀ rung, rung < 2047 * 2 ^ 52 → (FloatKind.f64.format.read (Ieee.double.word s rung)).isInfinity = false := by
    intro rung hr
    have e1 : Ieee.double.word s rung % 2 ^ 63 = rung := by
      unfold Ieee.Format.word; rw [hs]; cases s <;> simp <;> omega
    show (Ieee.Format.read Ieee.double _).isInfinity = false
    simp only [Ieee.Format.read, hs, hb, hi, e1, if_pos hr]
    split
    · rfl
    · rfl
  show (FloatKind.f64.format.read (Ieee.double.nearest s m e)).isInfinity = false
  unfold Ieee.Format.nearest
  split
  · exact key 0 (by decide)
  · rename_i hm0
    have hlog : m.log2 < 24 := (Nat.log2_lt hm0).2 hm
    have hlo : 2 ^ m.log2 ≤ m := Nat.log2_self_le hm0
    have hhi : m < 2 ^ (m.log2 + 1) := Nat.lt_log2_self
    simp only [hl, hf, hb, hi]
    have elast : max (e + (m.log2 : Int) - ((52 : Nat) : Int)) (-1074) = e + (m.log2 : Int) - 52 := by omega
    rw [elast]
    have e1 : (e - (e + (m.log2 : Int) - 52)).toNat = 52 - m.log2 := by omega
    have e2 : (e + (m.log2 : Int) - 52 - e).toNat = 0 := by omega
    rw [e1, e2]
    have ecut : Ieee.Toward.even.cut s (m <<< (52 - m.log2)) 0 = m <<< (52 - m.log2) := by
      simp [Ieee.Toward.cut, Nat.mod_one]
    rw [ecut, Nat.shiftLeft_eq]
    have hk : m * 2 ^ (52 - m.log2) < 2 ^ 53 := by
      calc m * 2 ^ (52 - m.log2) < 2 ^ (m.log2 + 1) * 2 ^ (52 - m.log2) := Nat.mul_lt_mul_of_pos_right hhi (Nat.two_pow_pos _)
        _ = 2 ^ 53 := by rw [← Nat.pow_add]; congr 1; omega
    have hq : (e + (m.log2 : Int) - 52 - -1074).toNat ≤ 1149 := by omega
    have hq2 : (e + (m.log2 : Int) - 52 - -1074).toNat * 2 ^ 52 ≤ 1149 * 2 ^ 52 := Nat.mul_le_mul_right _ hq
    exact key _ (Nat.lt_of_le_of_lt (Nat.min_le_left _ _) (by omega))

theorem wordTop_eq (k : FloatKind) : wordTop k = 2 ^ k.format.width := by cases k <;> rfl

theorem cut_nanBits_wf (k : FloatKind) (x y t : Nat) : wfW k ((Question.nanBits k x y).cut t) := by
  cases k <;> simp only [wfW, wordTop, Question.cut] <;> omega
theorem cut_nanConv_wf (k : FloatKind) (x t : Nat) : wfW k ((Question.nanConv k x).cut t) := by
  cases k <;> simp only [wfW, wordTop, Question.cut] <;> omega
theorem cut_nanMinMax_wf (k : FloatKind) (m : Bool) (x y t : Nat) : wfW k ((Question.nanMinMax k m x y).cut t) := by
  cases k <;> simp only [wfW, wordTop, Question.cut] <;> omega
theorem nanW_wf (k : FloatKind) : wfW k (nanW k) := by cases k <;> simp [wfW, wordTop, nanW]
theorem write_wf (k : FloatKind) (d : Ieee.Datum) : wfW k (k.encode d) := by unfold wfW; rw [wordTop_eq]; exact k.format.write_lt d

theorem floatBits_wfW {op : BinOp} {k : FloatKind} {x y r : Nat} (h : floatBits op k x y = some r) : wfW k r := by
  unfold wfW; rw [wordTop_eq]
  unfold floatBits at h
  split at h
  · exact k.format.add_lt h
  · exact k.format.sub_lt h
  · exact k.format.mul_lt h
  · exact k.format.div_lt h
  · cases h

theorem fop_wf (op : BinOp) (k : FloatKind) (x y : Nat) : wfW k (fop op k x y) := by
  rw [fop_eq]; unfold fopImpl
  cases h : floatBits op k x y with
  | none => exact nanW_wf k
  | some r => exact floatBits_wfW h

theorem fmin_wf {k : FloatKind} {x y : Nat} (hx : wfW k x) (hy : wfW k y) : wfW k (fmin k x y) := by
  rw [fmin_eq]; unfold fminImpl
  split
  · exact nanW_wf k
  · exact hx
  · exact hy
  · split <;> assumption
theorem fmax_wf {k : FloatKind} {x y : Nat} (hx : wfW k x) (hy : wfW k y) : wfW k (fmax k x y) := by
  rw [fmax_eq]; unfold fmaxImpl
  split
  · exact nanW_wf k
  · exact hy
  · exact hx
  · split <;> assumption
theorem wide_wf (x : Nat) : wfW .f64 (wide x) := by
  rw [wide_eq]; unfold wideImpl floatToFloatBits
  rw [if_neg (by decide)]
  split
  · exact nanW_wf .f64
  · exact write_wf .f64 _
  · split
    · exact nanW_wf .f64
    · exact write_wf .f64 _
theorem sqrtW_wf (x : Nat) : wfW .f64 (sqrtW x) := by
  rw [sqrtW_eq]; unfold sqrtImpl Ieee.Format.sqrt
  cases ((FloatKind.f64.format.read x).root (FloatKind.f64.format.fractionBits + 2)) with
  | none => exact nanW_wf .f64
  | some d => exact write_wf .f64 d
theorem nrw_wf (x : Nat) : wfW .f32 (nrw x) := by
  rw [nrw_eq]; unfold nrwImpl
  split
  · exact nanW_wf .f32
  · exact write_wf .f32 _
  · exact write_wf .f32 _
theorem intgW_wf (t : Ieee.Toward) (x : Nat) : wfW .f64 (intgW t x) := by
  rw [intgW_eq]; unfold intgImpl
  split
  · exact nanW_wf .f64
  · exact write_wf .f64 _
  · exact write_wf .f64 _
theorem ofInt_wf (k : FloatKind) (n : Int) : wfW k (ofInt k n) := by
  rw [ofInt_eq]; unfold floatOfInt FloatKind.nearest; exact write_wf k _
theorem fneg_wf {k : FloatKind} {b : Nat} (h : wfW k b) : wfW k (fneg k b) := by
  unfold wfW at *
  unfold fneg Op.negFloat
  rw [wordTop_eq] at *
  refine Nat.xor_lt_two_pow h ?_
  cases k <;> decide

section
variable {P : Program} (w : World)

/-- After some draws. -/
def Drawn (w w' : World) : Prop := w' = w ∨ w' = w.drew

theorem run_fop (op : BinOp) (t : TypeId) (k : FloatKind) {x x' y y' : Nat} (hop : isFop op = true) (hx : sameW k x x') (hy : sameW k y y') :
    ∃ r w', (binOp op t (.float k x') (.float k y')).run P w = .ok (.float k r) w' ∧ sameW k (fop op k x y) r ∧ wfW k r ∧ Drawn w w' := by
  have hb := floatBits_same (op := op) hx hy
  cases hr : floatBits op k x' y' with
  | some r =>
    refine ⟨r, w, run_float_arith w op t k x' y' r hr, ?_, floatBits_wfW hr, Or.inl rfl⟩
    rw [fop_eq]
    unfold fopImpl
    rw [← hb, hr]
    exact Or.inl rfl
  | none =>
    have hn : isNaNW k (fop op k x y) = true := by
      rw [fop_eq]; unfold fopImpl; rw [← hb, hr]; exact nanW_isNaN k
    refine ⟨(Question.nanBits k x' y').cut (w.tape w.drawn (.nanBits k x' y')), w.drew, ?_, Or.inr ⟨hn, cut_nanBits ..⟩, cut_nanBits_wf .., Or.inr rfl⟩
    unfold floatBits at hr
    cases op <;> simp only [isFop] at hop <;> first | (cases hop; done) | skip
    all_goals simp [binOp, Op.floatArith, hr, Question.forced]

theorem run_fcmp (op : BinOp) (t : TypeId) (k : FloatKind) {x x' y y' : Nat} {c : Bool} (hc : fcmp op k x y = some c) (hx : sameW k x x') (hy : sameW k y y') :
    (binOp op t (.float k x') (.float k y')).run P w = .ok (.bool c) w := by
  have ho := order_same hx hy
  cases op <;> simp only [fcmp] at hc <;> first | (cases hc; done) | skip
  all_goals (cases hc)
  all_goals simp only [binOp_float_cmp_eql, binOp_float_cmp_neq, binOp_float_cmp_lss, binOp_float_cmp_leq, binOp_float_cmp_gtr, binOp_float_cmp_geq, Sem.run_pure, ho]
  · rw [feqB_eq]; rfl
  · rw [feqB_eq]; rfl
  · rw [fltB_eq]; rfl
  · simp only [fleB, fltB_eq, feqB_eq]; rfl
  · rw [fltB_eq, order_gt]; rfl
  · simp only [fleB, fltB_eq, feqB_eq, order_gt, order_eq_symm k x y]; rfl

theorem run_min2 (k : FloatKind) {x x' y y' : Nat} (hx : sameW k x x') (hy : sameW k y y') (wx : wfW k x') (wy : wfW k y') :
    ∃ r w', (Builtin.min2 (.float k x') (.float k y')).run P w = .ok (.float k r) w' ∧ sameW k (fmin k x y) r ∧ wfW k r ∧ Drawn w w' := by
  have ho := order_same hx hy
  cases hr : k.format.order x' y' with
  | none =>
    refine ⟨(Question.nanMinMax k false x' y').cut (w.tape w.drawn (.nanMinMax k false x' y')), w.drew, ?_, Or.inr ⟨?_, cut_nanMinMax ..⟩, cut_nanMinMax_wf .., Or.inr rfl⟩
    · simp [Builtin.min2, hr, Question.forced]
    · rw [fmin_eq]; unfold fminImpl; rw [← ho, hr]; exact nanW_isNaN k
  | some o =>
    have hxx : x' = x := by
      rcases hx with h | ⟨_, h⟩
      · exact h
      · rw [order_nan_left _ h] at hr; cases hr
    have hyy : y' = y := by
      rcases hy with h | ⟨_, h⟩
      · exact h
      · rw [order_nan_right _ h] at hr; cases hr
    subst hxx; subst hyy
    refine ⟨fmin k x' y', w, ?_, Or.inl rfl, fmin_wf wx wy, Or.inl rfl⟩
    rw [fmin_eq]; unfold fminImpl; rw [hr]
    cases o <;> simp [Builtin.min2, hr]

theorem run_max2 (k : FloatKind) {x x' y y' : Nat} (hx : sameW k x x') (hy : sameW k y y') (wx : wfW k x') (wy : wfW k y') :
    ∃ r w', (Builtin.max2 (.float k x') (.float k y')).run P w = .ok (.float k r) w' ∧ sameW k (fmax k x y) r ∧ wfW k r ∧ Drawn w w' := by
  have ho := order_same hx hy
  cases hr : k.format.order x' y' with
  | none =>
    refine ⟨(Question.nanMinMax k true x' y').cut (w.tape w.drawn (.nanMinMax k true x' y')), w.drew, ?_, Or.inr ⟨?_, cut_nanMinMax ..⟩, cut_nanMinMax_wf .., Or.inr rfl⟩
    · simp [Builtin.max2, hr, Question.forced]
    · rw [fmax_eq]; unfold fmaxImpl; rw [← ho, hr]; exact nanW_isNaN k
  | some o =>
    have hxx : x' = x := by
      rcases hx with h | ⟨_, h⟩
      · exact h
      · rw [order_nan_left _ h] at hr; cases hr
    have hyy : y' = y := by
      rcases hy with h | ⟨_, h⟩
      · exact h
      · rw [order_nan_right _ h] at hr; cases hr
    subst hxx; subst hyy
    refine ⟨fmax k x' y', w, ?_, Or.inl rfl, fmax_wf wx wy, Or.inl rfl⟩
    rw [fmax_eq]; unfold fmaxImpl; rw [hr]
    cases o <;> simp [Builtin.max2, hr]

/-- float64(x) of a float32. -/
theorem run_wide {x x' : Nat} (hx : sameW .f32 x x') :
    ∃ r w', (Conv.floatToFloat .f32 x' .f64).run P w = .ok (.float .f64 r) w' ∧ sameW .f64 (wide x) r ∧ wfW .f64 r ∧ Drawn w w' := by
  unfold Conv.floatToFloat
  rw [if_neg (by decide)]
  have hw : ∀ b, isNaNW .f32 b = true → isNaNW .f64 (wide b) = true := by
    intro b hb
    obtain ⟨s, f, hr⟩ := isNaN_read hb
    rw [wide_eq]; unfold wideImpl floatToFloatBits FloatKind.decode
    rw [if_neg (by decide), hr]; exact nanW_isNaN .f64
  by_cases hn : isNaNW .f32 x' = true
  · obtain ⟨s, f, hr⟩ := isNaN_read hn
    have hnx : isNaNW .f32 x = true := by
      rcases hx with h | ⟨h, _⟩
      · rw [← h]; exact hn
      · exact h
    refine ⟨(Question.nanConv .f64 x').cut (w.tape w.drawn (.nanConv .f64 x')), w.drew, ?_, Or.inr ⟨hw _ hnx, cut_nanConv ..⟩, cut_nanConv_wf .., Or.inr rfl⟩
    simp [FloatKind.decode, hr, Question.forced]
  · have hxx : x' = x := by
      rcases hx with h | ⟨_, h⟩
      · exact h
      · exact absurd h hn
    subst hxx
    cases hr : FloatKind.f32.format.read x' with
    | nan s f => exact absurd (by simp [isNaNW, hr, Ieee.Datum.isNaN]) hn
    | infinity s =>
      refine ⟨_, w, by simp only [FloatKind.decode, hr, Sem.run_pure]; rfl, Or.inl ?_, write_wf .f64 _, Or.inl rfl⟩
      rw [wide_eq]; unfold wideImpl floatToFloatBits FloatKind.decode
      rw [if_neg (by decide), hr]; rfl
    | number s m e =>
      simp only [FloatKind.decode, hr]
      by_cases hi : (FloatKind.f64.format.read (FloatKind.f64.encode (Ieee.Datum.number s m e))).isInfinity = true
      · -- cannot be, but the law need not know: an infinity of f64 is drawn
        exact absurd hi (by rw [wide_finite hr]; decide)
      · refine ⟨FloatKind.f64.encode (.number s m e), w, by simp [hi], Or.inl ?_, write_wf .f64 _, Or.inl rfl⟩
        rw [wide_eq]; unfold wideImpl floatToFloatBits FloatKind.decode
        rw [if_neg (by decide), hr]; simp [hi]
/-- A square root. -/
theorem run_sqrt {x x' : Nat} (hx : sameW .f64 x x') :
    ∃ r w', (Extern.MathSqrt.sqrt #[.float .f64 x']).run P w = .ok (.float .f64 r) w' ∧ sameW .f64 (sqrtW x) r ∧ wfW .f64 r ∧ Drawn w w' := by
  have e0 : Extern.MathSqrt.sqrt #[.float .f64 x'] = match FloatKind.f64.format.sqrt x' with
    | some r => (Pure.pure (Value.float .f64 r) : Sem Value)
    | none => ((choose (.nanBits .f64 x' x')) >>= fun r => (Pure.pure (Value.float .f64 r) : Sem Value)) := rfl
  rw [e0]
  cases hr : FloatKind.f64.format.sqrt x' with
  | none =>
    simp only
    refine ⟨(Question.nanBits .f64 x' x').cut (w.tape w.drawn (.nanBits .f64 x' x')), w.drew, ?_, Or.inr ⟨?_, cut_nanBits ..⟩, cut_nanBits_wf .., Or.inr rfl⟩
    · simp [Question.forced]
    · rw [sqrtW_eq]; unfold sqrtImpl
      rcases hx with h | ⟨h, _⟩
      · subst h; rw [hr]; exact nanW_isNaN .f64
      · obtain ⟨s, f, hx⟩ := isNaN_read h
        unfold Ieee.Format.sqrt; rw [hx]; exact nanW_isNaN .f64
  | some r =>
    simp only
    have hxx : x' = x := by
      rcases hx with h | ⟨_, h⟩
      · exact h
      · obtain ⟨s, f, hx⟩ := isNaN_read h
        unfold Ieee.Format.sqrt at hr; rw [hx] at hr; cases hr
    subst hxx
    have e : sqrtW x' = r := by rw [sqrtW_eq]; unfold sqrtImpl; rw [hr]; rfl
    exact ⟨r, w, by simp, Or.inl e.symm, by rw [← e]; exact sqrtW_wf _, Or.inl rfl⟩

theorem quiet_nan (s : Bool) (f : Nat) : isNaNW .f64 (FloatKind.f64.encode (.nan s (FloatKind.f64.format.quiet f))) = true := by
  have h1 : 2251799813685248 ≤ (f ||| 2251799813685248) % 4503599627370496 := by
    have ht : ((f ||| 2 ^ 51) % 2 ^ 52).testBit 51 = true := by
      rw [Nat.testBit_mod_two_pow, Nat.testBit_or, Nat.testBit_two_pow_self]; simp
    exact Nat.ge_two_pow_of_testBit ht
  have h2 : (f ||| 2251799813685248) % 4503599627370496 < 4503599627370496 := Nat.mod_lt _ (by decide)
  generalize hq : (f ||| 2251799813685248) % 4503599627370496 = q at h1 h2
  have e : FloatKind.f64.encode (.nan s (FloatKind.f64.format.quiet f)) = (if s then 9223372036854775808 + (9218868437227405312 + q) else 9218868437227405312 + q) := by
    rw [← hq]; rfl
  rw [e]
  unfold isNaNW
  have e1 : FloatKind.f64.format.signWeight = 9223372036854775808 := rfl
  have e2 : FloatKind.f64.format.binade = 4503599627370496 := rfl
  have e3 : FloatKind.f64.format.infRung = 9218868437227405312 := rfl
  unfold Ieee.Format.read
  simp only [e1, e2, e3]
  have hm : (if s then 9223372036854775808 + (9218868437227405312 + q) else 9218868437227405312 + q) % 9223372036854775808 = 9218868437227405312 + q := by
    cases s <;> simp <;> omega
  rw [hm, if_neg (by omega), if_neg (by omega), if_neg (by omega)]
  rfl

/-- A float64 made whole. -/
theorem run_intg (name : String) (t : Ieee.Toward) {x x' : Nat} (hx : sameW .f64 x x') (hw : wfW .f64 x') :
    ∃ r w', (Extern.MathFloor.toIntegral name t #[.float .f64 x']).run P w = .ok (.float .f64 r) w' ∧ sameW .f64 (intgW t x) r ∧ wfW .f64 r ∧ Drawn w w' := by
  have e1 : ∀ g f, FloatKind.f64.decode x' = .nan g f → Extern.MathFloor.toIntegral name t #[.float .f64 x'] = (if FloatKind.f64.format.quiet f = f then (Pure.pure (Value.float .f64 x') : Sem Value) else
      ((choose (.extern "math.Floor,Ceil,Trunc,RoundToEven.signallingNaN kept" 2)) >>= fun kept => (Pure.pure (Value.float .f64 (if kept == 1 then x' else FloatKind.f64.encode (.nan g (FloatKind.f64.format.quiet f)))) : Sem Value))) := fun g f h => by
    show (match FloatKind.f64.decode x' with
      | .nan s t => _
      | d => (Pure.pure (Value.float .f64 (FloatKind.f64.encode (d.integral _))) : Sem Value)) = _
    rw [h]
  have e2 : ∀ d : Ieee.Datum, FloatKind.f64.decode x' = d → d.isNaN = false → Extern.MathFloor.toIntegral name t #[.float .f64 x'] = (Pure.pure (Value.float .f64 (FloatKind.f64.encode (d.integral t))) : Sem Value) := fun d h hn => by
    show (match FloatKind.f64.decode x' with
      | .nan s t => _
      | d => (Pure.pure (Value.float .f64 (FloatKind.f64.encode (d.integral _))) : Sem Value)) = _
    rw [h]
    cases d with
    | nan s f => cases hn
    | number s m e => rfl
    | infinity s => rfl
  by_cases hn : isNaNW .f64 x' = true
  · obtain ⟨s, f, hr⟩ := isNaN_read hn
    have hnx : isNaNW .f64 x = true := by
      rcases hx with h | ⟨h, _⟩
      · rw [← h]; exact hn
      · exact h
    obtain ⟨s2, f2, hr2⟩ := isNaN_read hnx
    have hnan : isNaNW .f64 (intgW t x) = true := by rw [intgW_eq]; unfold intgImpl FloatKind.decode; rw [hr2]; exact nanW_isNaN .f64
    rw [e1 s f (by unfold FloatKind.decode; exact hr)]
    split
    · exact ⟨x', w, by simp, Or.inr ⟨hnan, hn⟩, hw, Or.inl rfl⟩
    · rename_i hq
      have hq2 := quiet_nan s f
      refine ⟨if (Question.extern "math.Floor,Ceil,Trunc,RoundToEven.signallingNaN kept" 2).cut (w.tape w.drawn (.extern "math.Floor,Ceil,Trunc,RoundToEven.signallingNaN kept" 2)) == 1 then x' else FloatKind.f64.encode (.nan s (FloatKind.f64.format.quiet f)), w.drew, ?_, Or.inr ⟨hnan, ?_⟩, ?_, Or.inr rfl⟩
      · simp [Question.forced]
      · split
        · exact hn
        · exact hq2
      · split
        · exact hw
        · exact write_wf .f64 _
  · have hxx : x' = x := by
      rcases hx with h | ⟨_, h⟩
      · exact h
      · exact absurd h hn
    subst hxx
    cases hr : FloatKind.f64.format.read x' with
    | nan s f => exact absurd (by simp [isNaNW, hr, Ieee.Datum.isNaN]) hn
    | infinity s =>
      rw [e2 _ (by unfold FloatKind.decode; exact hr) rfl]
      refine ⟨_, w, by simp only [Sem.run_pure]; rfl, Or.inl ?_, write_wf .f64 _, Or.inl rfl⟩
      rw [intgW_eq]; unfold intgImpl FloatKind.decode
      rw [hr]
    | number s m e =>
      rw [e2 _ (by unfold FloatKind.decode; exact hr) rfl]
      refine ⟨_, w, by simp only [Sem.run_pure]; rfl, Or.inl ?_, write_wf .f64 _, Or.inl rfl⟩
      rw [intgW_eq]; unfold intgImpl FloatKind.decode
      rw [hr]

/-- A float made an integer. -/
theorem run_f2i {s : FloatKind} {k : IntKind} {x x' : Nat} (hx : sameW s x x') (hok : f2iOk s k x = true) :
    (Conv.floatToInt s x' k).run P w = .ok (.int k (f2i s x)) w := by
  rw [f2iOk_eq] at hok
  unfold f2iOkImpl at hok
  have hxx : x' = x := by
    rcases hx with h | ⟨h, _⟩
    · exact h
    · obtain ⟨g, f, hr⟩ := isNaN_read h
      rw [FloatKind.decode, hr] at hok
      simp [Ieee.Datum.toInt, Ieee.Datum.integral] at hok
  subst hxx
  rw [f2i_eq]; unfold f2iImpl
  split at hok
  · rename_i n hn
    simp only [Bool.and_eq_true, decide_eq_true_eq] at hok
    show (match (s.decode x').toInt .zero with
      | some n => if k.min ≤ n ∧ n ≤ k.max then (Pure.pure (Value.int k n) : Sem Value) else _
      | none => _ : Sem Value).run P w = _
    rw [hn]
    simp only []
    rw [if_pos hok]; rfl
  · cases hok

/-- float32(x) of a float64 that isn't too great. -/
theorem run_nrw {x x' : Nat} (hx : sameW .f64 x x') (hok : nrwOk x = true) :
    ∃ r w', (Conv.floatToFloat .f64 x' .f32).run P w = .ok (.float .f32 r) w' ∧ sameW .f32 (nrw x) r ∧ wfW .f32 r ∧ Drawn w w' := by
  unfold Conv.floatToFloat
  rw [if_neg (by decide)]
  by_cases hn : isNaNW .f64 x' = true
  · obtain ⟨s, f, hr⟩ := isNaN_read hn
    have hnx : isNaNW .f64 x = true := by
      rcases hx with h | ⟨h, _⟩
      · rw [← h]; exact hn
      · exact h
    obtain ⟨s2, f2, hr2⟩ := isNaN_read hnx
    refine ⟨(Question.nanConv .f32 x').cut (w.tape w.drawn (.nanConv .f32 x')), w.drew, ?_, Or.inr ⟨?_, cut_nanConv ..⟩, cut_nanConv_wf .., Or.inr rfl⟩
    · simp [FloatKind.decode, hr, Question.forced]
    · rw [nrw_eq]; unfold nrwImpl FloatKind.decode; rw [hr2]; exact nanW_isNaN .f32
  · have hxx : x' = x := by
      rcases hx with h | ⟨_, h⟩
      · exact h
      · exact absurd h hn
    subst hxx
    cases hr : FloatKind.f64.format.read x' with
    | nan s f => exact absurd (by simp [isNaNW, hr, Ieee.Datum.isNaN]) hn
    | infinity s =>
      refine ⟨_, w, by simp only [FloatKind.decode, hr, Sem.run_pure]; rfl, Or.inl ?_, write_wf .f32 _, Or.inl rfl⟩
      rw [nrw_eq]; unfold nrwImpl FloatKind.decode
      rw [hr]
    | number s m e =>
      rw [nrwOk_eq] at hok
      unfold nrwOkImpl FloatKind.decode at hok
      rw [hr] at hok
      simp only [Bool.not_eq_true'] at hok
      refine ⟨FloatKind.f32.encode (.number s m e), w, by simp [FloatKind.decode, hr, hok], Or.inl ?_, write_wf .f32 _, Or.inl rfl⟩
      rw [nrw_eq]; unfold nrwImpl FloatKind.decode
      simp only [hr]
end
end Go.Ab

namespace Go.Ab
open Go Go.RowKit
set_option linter.unusedVariables false

/-! ### 3. Memory -/
/-- The block may be written. -/
def St.wrB (S : St) (i : Nat) : Bool :=
  match (S.blk i).cells with
  | [] => match S.vec i with | some v => v.wr | none => false
  | _ :: _ => (S.blk i).wr

theorem cell_zero {T : St} {i : Nat} {c : AVal} {cs : List AVal} (hcs : (T.blk i).cells = c :: cs) : ∃ x, T.cell i 0 = some x := by
  unfold St.cell
  rw [hcs]
  simp only [List.length_cons]
  have : Nat.ble (0 + 1) (cs.length + 1) = true := Nat.ble_eq_true_of_le (by omega)
  rw [this]
  simp only
  split
  · exact ⟨_, rfl⟩
  · exact ⟨_, rfl⟩

theorem cell_cons {T : St} {i o : Nat} {x : AVal} (h : T.cell i o = some x) : ∃ c cs, (T.blk i).cells = c :: cs := by
  cases hcs : (T.blk i).cells with
  | nil =>
    unfold St.cell at h
    rw [hcs] at h
    have e : Nat.ble (o + 1) ([] : List AVal).length = false := rfl
    rw [e] at h; cases h
  | cons c cs => exact ⟨c, cs, rfl⟩

theorem vec_nil {S : St} {i : Nat} {v : Vc} (h : S.vec i = some v) : (S.blk i).cells = [] := by
  unfold St.vec at h
  split at h
  · assumption
  · cases h

theorem wrB_iff {T : St} {i : Nat} : T.wrB i = true ↔ (∃ o x, T.cell i o = some x ∧ (T.blk i).wr = true) ∨ (∃ v, T.vec i = some v ∧ v.wr = true) := by
  unfold St.wrB
  constructor
  · intro h
    split at h
    · split at h
      · rename_i v hv; exact Or.inr ⟨v, hv, h⟩
      · cases h
    · rename_i c cs hcs
      obtain ⟨x, hx⟩ := cell_zero hcs
      exact Or.inl ⟨0, x, hx, h⟩
  · rintro (⟨o, x, hx, hw⟩ | ⟨v, hv, hw⟩)
    · obtain ⟨c, cs, hcs⟩ := cell_cons hx
      rw [hcs]; exact hw
    · rw [vec_nil hv]; simp only; rw [hv]; exact hw

structure Hp (ρ : Rho) (S : St) (w : World) : Prop where
  cell : ∀ i o x, S.cell i o = some x → ∃ r b v, ρ i = some (r, b) ∧ w.cell? ⟨r, b + o, none⟩ = some v ∧ V ρ x v
  vcell : ∀ i vc r b k o c, S.vec i = some vc → ρ i = some (r, b) → k < vc.n.val → nthC o vc.sh = some c → ∃ v, w.cell? ⟨r, b + (k * lenL vc.sh + o), none⟩ = some v ∧ V ρ (vc.mkA k o c) v
  frz : ∀ i o x r b, S.cell i o = some x → (S.blk i).wr = true → ρ i = some (r, b) → w.frozen? ⟨r, b + o, none⟩ = false
  vfrz : ∀ i vc r b q, S.vec i = some vc → vc.wr = true → ρ i = some (r, b) → q < ρ.cap i * lenL vc.sh → (∃ v, w.cell? ⟨r, b + q, none⟩ = some v) ∧ w.frozen? ⟨r, b + q, none⟩ = false
  vcap : ∀ i vc r b, S.vec i = some vc → vc.wr = true → ρ i = some (r, b) → vc.n.val ≤ ρ.cap i
  dis : ∀ i j r b b', i ≠ j → S.wrB i = true → ρ i = some (r, b) → ρ j = some (r, b') → S.live j = true → False
  dom : ∀ i p, ρ i = some p → i < S.hp.length
  kdm : ∀ i, ρ.kn i = true → i < S.hp.length
  ink : ∀ i o x, hlookL i o S.hvs = some x → i < S.hp.length
  vink : ∀ i x, vlookL i S.vvs = some x → i < S.hp.length
  lt : ∀ i r b, ρ i = some (r, b) → r < w.heap.size

structure Fr (M : Addr → Prop) (w0 w : World) : Prop where
  os : w.os = w0.os
  tape : w.tape = w0.tape
  output : w.output = w0.output
  size : w0.heap.size ≤ w.heap.size
  block : ∀ k, k < w0.heap.size → (∀ o, ¬ M ⟨k, o, none⟩) → w.heap[k]? = w0.heap[k]?
  cell : ∀ a, a.block < w0.heap.size → ¬ M a → w.cell? a = w0.cell? a
  frozen : ∀ a, a.block < w0.heap.size → w.frozen? a = w0.frozen? a

theorem Fr.refl (M : Addr → Prop) (w : World) : Fr M w w := ⟨rfl, rfl, rfl, Nat.le_refl _, fun _ _ _ => rfl, fun _ _ _ => rfl, fun _ _ => rfl⟩

theorem Fr.trans {M M' : Addr → Prop} {w0 w w' : World} (h : Fr M w0 w) (k : Fr M' w w') (hm : ∀ a, M' a → M a ∨ w0.heap.size ≤ a.block) : Fr M w0 w' := by
  have hs := h.size
  refine ⟨k.os.trans h.os, k.tape.trans h.tape, k.output.trans h.output, Nat.le_trans h.size k.size, fun b hb hn => ?_, fun a ha hn => ?_, fun a ha => ?_⟩
  · rw [k.block b (by omega) (fun o ho => (hm _ ho).elim (hn o) (fun h => by simp at h; omega)), h.block b hb hn]
  · rw [k.cell a (by omega) (fun ho => (hm _ ho).elim hn (fun h => by omega)), h.cell a ha hn]
  · rw [k.frozen a (by omega), h.frozen a ha]

theorem Fr.mono {M M' : Addr → Prop} {w0 w : World} (h : Fr M w0 w) (hm : ∀ a, M a → M' a) : Fr M' w0 w :=
  ⟨h.os, h.tape, h.output, h.size, fun k hk hn => h.block k hk (fun o ho => hn o (hm _ ho)), fun a ha hn => h.cell a ha (fun ho => hn (hm _ ho)), h.frozen⟩

def NoM : Addr → Prop := fun _ => False

theorem Fr.drew (w : World) : Fr NoM w w.drew := ⟨rfl, rfl, rfl, Nat.le_refl _, fun _ _ _ => rfl, fun _ _ _ => rfl, fun _ _ => rfl⟩
theorem Fr.drawn {w w' : World} (h : Drawn w w') : Fr NoM w w' := by
  rcases h with rfl | rfl
  · exact Fr.refl _ _
  · exact Fr.drew _

theorem Fr.alloc (w : World) (o : Obj) : Fr NoM w (w.alloc o) := by
  refine ⟨rfl, rfl, rfl, by simp, fun k hk _ => Below.heap_alloc _ _ _ hk, fun a ha _ => World.cell?_alloc_lt _ _ _ ha, fun a ha => World.frozen?_alloc_old _ _ _ (by omega)⟩

theorem Fr.of_below {w w' : World} (h : Below w.heap.size w w') : Fr NoM w w' :=
  ⟨h.os, h.tape, h.output, h.size, fun k hk _ => h.block k hk, fun _ ha _ => h.cell ha, fun _ ha => h.frozen ha⟩

theorem Fr.below {w w' : World} (h : Fr NoM w w') : Below w.heap.size w w' :=
  ⟨h.os, h.tape, h.output, h.size, fun k hk => h.block k hk (fun _ h => h)⟩

structure Own (M : Addr → Prop) (w0 : World) (ρ : Rho) (S : St) : Prop where
  cell : ∀ i o x r b, S.cell i o = some x → (S.blk i).wr = true → ρ i = some (r, b) → M ⟨r, b + o, none⟩ ∨ w0.heap.size ≤ r
  vec : ∀ i vc r b q, S.vec i = some vc → vc.wr = true → ρ i = some (r, b) → q < ρ.cap i * lenL vc.sh → M ⟨r, b + q, none⟩ ∨ w0.heap.size ≤ r

structure Mem (M : Addr → Prop) (w0 : World) (ρ : Rho) (S : St) (w : World) : Prop where
  hp : Hp ρ S w
  fr : Fr M w0 w
  own : Own M w0 ρ S

/-- The cells of a state that may be written. -/
def WrA (ρ : Rho) (S : St) : Addr → Prop := fun a => (∃ i o x r b, S.cell i o = some x ∧ (S.blk i).wr = true ∧ ρ i = some (r, b) ∧ a = ⟨r, b + o, none⟩) ∨
  (∃ i vc r b q, S.vec i = some vc ∧ vc.wr = true ∧ ρ i = some (r, b) ∧ q < ρ.cap i * lenL vc.sh ∧ a = ⟨r, b + q, none⟩)

theorem Own.wrA {M : Addr → Prop} {w0 : World} {ρ : Rho} {S : St} (h : Own M w0 ρ S) : ∀ a, WrA ρ S a → M a ∨ w0.heap.size ≤ a.block := by
  rintro a (⟨i, o, x, r, b, h1, h2, h3, rfl⟩ | ⟨i, vc, r, b, q, h1, h2, h3, h4, rfl⟩)
  · exact h.cell i o x r b h1 h2 h3
  · exact h.vec i vc r b q h1 h2 h3 h4

theorem wrB_same {S S' : St} (hc : ∀ i o, S'.cell i o = S.cell i o) (hb : ∀ i, (S'.blk i).wr = (S.blk i).wr) (hv : ∀ i, S'.vec i = S.vec i) (i : Nat) : S'.wrB i = S.wrB i := by
  have : S'.wrB i = true ↔ S.wrB i = true := by
    rw [wrB_iff, wrB_iff, hv, hb]
    constructor
    · rintro (⟨o, x, hx, hw⟩ | h)
      · exact Or.inl ⟨o, x, by rw [← hc]; exact hx, hw⟩
      · exact Or.inr h
    · rintro (⟨o, x, hx, hw⟩ | h)
      · exact Or.inl ⟨o, x, by rw [hc]; exact hx, hw⟩
      · exact Or.inr h
  cases h1 : S'.wrB i <;> cases h2 : S.wrB i <;> simp_all

theorem live_iff {T : St} {i : Nat} : T.live i = true ↔ (∃ x, T.cell i 0 = some x) ∨ (∃ v c sh, T.vec i = some v ∧ v.sh = c :: sh) := by
  unfold St.live
  constructor
  · intro h
    split at h
    · split at h
      · rename_i v hv
        split at h
        · cases h
        · rename_i c sh hsh; exact Or.inr ⟨v, c, sh, hv, hsh⟩
      · cases h
    · rename_i c cs hcs
      left
      unfold St.cell
      rw [hcs]
      simp only [List.length_cons]
      have : Nat.ble (0 + 1) (cs.length + 1) = true := Nat.ble_eq_true_of_le (by omega)
      rw [this]
      simp only
      split
      · exact ⟨_, rfl⟩
      · exact ⟨_, rfl⟩
  · intro h
    rcases h with ⟨x, hx⟩ | ⟨v, c, sh, hv, hsh⟩
    · cases hcs : (T.blk i).cells with
      | nil =>
        unfold St.cell at hx
        rw [hcs] at hx
        simp at hx
      | cons c cs => rfl
    · cases hcs : (T.blk i).cells with
      | nil => simp only; rw [hv]; simp only; rw [hsh]
      | cons c cs => rfl

theorem live_cell {T : St} {i o : Nat} {x : AVal} (h : T.cell i o = some x) : T.live i = true := by
  unfold St.live
  cases hcs : (T.blk i).cells with
  | nil =>
    unfold St.cell at h
    rw [hcs] at h
    have e : Nat.ble (o + 1) ([] : List AVal).length = false := rfl
    rw [e] at h; cases h
  | cons c cs => rfl

theorem live_vec {T : St} {i o : Nat} {v : Vc} {c : CK} (h : T.vec i = some v) (hc : nthC o v.sh = some c) : T.live i = true := by
  refine live_iff.2 (Or.inr ?_)
  cases hs : v.sh with
  | nil => rw [hs] at hc; simp [nthC] at hc
  | cons d sh => exact ⟨v, d, sh, h, hs⟩

theorem live_same {S S' : St} (hc : ∀ i o, S'.cell i o = S.cell i o) (hv : ∀ i, S'.vec i = S.vec i) (i : Nat) : S'.live i = S.live i := by
  have : S'.live i = true ↔ S.live i = true := by rw [live_iff, live_iff, hc, hv]
  cases h1 : S'.live i <;> cases h2 : S.live i <;> simp_all

theorem Mem.same {M : Addr → Prop} {w0 : World} {ρ : Rho} {S S' : St} {w : World} (h : Mem M w0 ρ S w) (hc : ∀ i o, S'.cell i o = S.cell i o) (hb : ∀ i, (S'.blk i).wr = (S.blk i).wr) (hv : ∀ i, S'.vec i = S.vec i)
    (hl : S'.hp.length = S.hp.length) (hi : ∀ i o x, hlookL i o S'.hvs = some x → i < S'.hp.length) (hvi : ∀ i x, vlookL i S'.vvs = some x → i < S'.hp.length) : Mem M w0 ρ S' w := by
  refine ⟨⟨fun i o x hx => h.hp.cell i o x (hc i o ▸ hx), fun i vc r b k o c hx => h.hp.vcell i vc r b k o c (hv i ▸ hx), fun i o x r b hx hw => h.hp.frz i o x r b (hc i o ▸ hx) (hb i ▸ hw),
    fun i vc r b q hx => h.hp.vfrz i vc r b q (hv i ▸ hx), fun i vc r b hx => h.hp.vcap i vc r b (hv i ▸ hx), fun i j r b b' hij hw h1 h2 h3 => h.hp.dis i j r b b' hij (wrB_same hc hb hv i ▸ hw) h1 h2 (live_same hc hv j ▸ h3),
    fun i p hp => hl ▸ h.hp.dom i p hp, fun i hk => hl ▸ h.hp.kdm i hk, hi, hvi, h.hp.lt⟩, h.fr, ⟨fun i o x r b hx hw => h.own.cell i o x r b (hc i o ▸ hx) (hb i ▸ hw), fun i vc r b q hx => h.own.vec i vc r b q (hv i ▸ hx)⟩⟩

/-- The world moves on: only what may be written is written. -/
theorem Mem.step {M M' : Addr → Prop} {w0 : World} {ρ : Rho} {S S' : St} {w w' : World} (h : Mem M w0 ρ S w) (k : Fr M' w w') (hm : ∀ a, M' a → WrA ρ S a)
    (hcell : ∀ i o x, S'.cell i o = some x → ∃ r b v, ρ i = some (r, b) ∧ w'.cell? ⟨r, b + o, none⟩ = some v ∧ V ρ x v)
    (hsome : ∀ i o x, S'.cell i o = some x → ∃ y, S.cell i o = some y)
    (hvcell : ∀ i vc r b k o c, S'.vec i = some vc → ρ i = some (r, b) → k < vc.n.val → nthC o vc.sh = some c → ∃ v, w'.cell? ⟨r, b + (k * lenL vc.sh + o), none⟩ = some v ∧ V ρ (vc.mkA k o c) v)
    (hvsome : ∀ i vc, S'.vec i = some vc → ∃ uc, S.vec i = some uc ∧ lenL uc.sh = lenL vc.sh ∧ (vc.wr = true → uc.wr = true ∧ vc.n.val ≤ uc.n.val))
    (hlive : ∀ i, S'.live i = true → S.live i = true)
    (hkeep : ∀ i vc r b q v, S'.vec i = some vc → vc.wr = true → ρ i = some (r, b) → w.cell? ⟨r, b + q, none⟩ = some v → ∃ u, w'.cell? ⟨r, b + q, none⟩ = some u)
    (hb : ∀ i, (S'.blk i).wr = (S.blk i).wr) (hl : S'.hp.length = S.hp.length) (hi : ∀ i o x, hlookL i o S'.hvs = some x → i < S'.hp.length) (hvi : ∀ i x, vlookL i S'.vvs = some x → i < S'.hp.length) : Mem M w0 ρ S' w' := by
  have hwr : ∀ i, S'.wrB i = true → S.wrB i = true := by
    intro i hw
    rcases wrB_iff.1 hw with ⟨o, x, hx, hw⟩ | ⟨v, hv, hw⟩
    · obtain ⟨y, hy⟩ := hsome i o x hx
      exact wrB_iff.2 (Or.inl ⟨o, y, hy, by rw [← hb]; exact hw⟩)
    · obtain ⟨uc, hu, _, h2⟩ := hvsome i v hv
      exact wrB_iff.2 (Or.inr ⟨uc, hu, (h2 hw).1⟩)
  refine ⟨⟨hcell, hvcell, fun i o x r b hx hw hr => ?_, fun i vc r b q hx hw hr hq => ?_, fun i vc r b hx hw hr => ?_, fun i j r b b' hij hw h1 h2 h3 => h.hp.dis i j r b b' hij (hwr i hw) h1 h2 (hlive j h3), fun i p hp => hl ▸ h.hp.dom i p hp, fun i hk => hl ▸ h.hp.kdm i hk, hi, hvi, fun i r b hr => Nat.lt_of_lt_of_le (h.hp.lt i r b hr) k.size⟩,
    h.fr.trans k (fun a ha => h.own.wrA a (hm a ha)), ⟨fun i o x r b hx hw hr => ?_, fun i vc r b q hx hw hr hq => ?_⟩⟩
  · obtain ⟨y, hy⟩ := hsome i o x hx
    obtain ⟨r', b', v, hr', hv, _⟩ := h.hp.cell i o y hy
    rw [hr] at hr'; cases hr'
    rw [k.frozen _ (World.block_lt_of_cell? _ _ hv)]
    exact h.hp.frz i o y r b hy (hb i ▸ hw) hr
  · obtain ⟨uc, hu, h1, h2⟩ := hvsome i vc hx
    obtain ⟨⟨v, hv⟩, h4⟩ := h.hp.vfrz i uc r b q hu (h2 hw).1 hr (by rw [h1]; exact hq)
    exact ⟨hkeep i vc r b q v hx hw hr hv, by rw [k.frozen _ (World.block_lt_of_cell? _ _ hv)]; exact h4⟩
  · obtain ⟨uc, hu, h1, h2⟩ := hvsome i vc hx
    exact Nat.le_trans (h2 hw).2 (h.hp.vcap i uc r b hu (h2 hw).1 hr)
  · obtain ⟨y, hy⟩ := hsome i o x hx
    exact h.own.cell i o y r b hy (hb i ▸ hw) hr
  · obtain ⟨uc, hu, h1, h2⟩ := hvsome i vc hx
    exact h.own.vec i uc r b q hu (h2 hw).1 hr (by rw [h1]; exact hq)

/-- Nothing at all is written. -/
theorem Mem.quiet {M : Addr → Prop} {w0 : World} {ρ : Rho} {S : St} {w w' : World} (h : Mem M w0 ρ S w) (k : Fr NoM w w') : Mem M w0 ρ S w' :=
  h.step k (fun _ ha => ha.elim) (fun i o x hx => by
    obtain ⟨r, b, v, h1, h2, h3⟩ := h.hp.cell i o x hx
    exact ⟨r, b, v, h1, by rw [k.cell _ (World.block_lt_of_cell? _ _ h2) (fun h => h)]; exact h2, h3⟩) (fun i o x hx => ⟨x, hx⟩)
    (fun i vc r b q o c hx hr hk hc => by
      obtain ⟨v, h2, h3⟩ := h.hp.vcell i vc r b q o c hx hr hk hc
      exact ⟨v, by rw [k.cell _ (World.block_lt_of_cell? _ _ h2) (fun h => h)]; exact h2, h3⟩) (fun i vc hx => ⟨vc, hx, rfl, fun h => ⟨h, Nat.le_refl _⟩⟩) (fun _ h => h)
    (fun i vc r b q v _ _ _ hv => ⟨v, by rw [k.cell _ (World.block_lt_of_cell? _ _ hv) (fun h => h)]; exact hv⟩) (fun _ => rfl) rfl h.hp.ink h.hp.vink

/-! lookups -/
theorem look1_append (t : Nat) : ∀ (a b : List (Nat × AVal)), look1 t (a ++ b) = match look1 t a with | some v => some v | none => look1 t b
  | [], b => rfl
  | (k, v) :: r, b => by
    simp only [List.cons_append, look1]
    split
    · rfl
    · exact look1_append t r b

theorem hlook1_append (i o : Nat) : ∀ (a b : List ((Nat × Nat) × AVal)), hlook1 i o (a ++ b) = match hlook1 i o a with | some v => some v | none => hlook1 i o b
  | [], b => rfl
  | (k, v) :: r, b => by
    simp only [List.cons_append, hlook1]
    split
    · rfl
    · exact hlook1_append i o r b

theorem nthB_append_left : ∀ (a b : List Blk) (i : Nat), i < a.length → nthB i (a ++ b) = nthB i a
  | [], _, i, h => by simp at h
  | x :: a, b, 0, _ => rfl
  | x :: a, b, i + 1, h => nthB_append_left a b i (by simpa using h)
theorem nthB_append_right : ∀ (a b : List Blk) (i : Nat), nthB (a.length + i) (a ++ b) = nthB i b
  | [], b, i => by simp
  | x :: a, b, i => by
    have : (x :: a).length + i = (a.length + i) + 1 := by simp; omega
    rw [this]; exact nthB_append_right a b i
theorem nthB_out : ∀ (a : List Blk) (i : Nat), a.length ≤ i → nthB i a = ⟨[], false, none⟩
  | [], i, _ => by cases i <;> rfl
  | x :: a, 0, h => by simp at h
  | x :: a, i + 1, h => nthB_out a i (by simpa using h)

theorem cell_none_out {S : St} {i o : Nat} (h : S.hp.length ≤ i) : S.cell i o = none := by
  unfold St.cell St.blk
  rw [nthB_out _ _ h]
  rfl

theorem cell_lt {S : St} {i o : Nat} {x : AVal} (h : S.cell i o = some x) : i < S.hp.length := by
  rcases Nat.lt_or_ge i S.hp.length with k | k
  · exact k
  · rw [cell_none_out k] at h; cases h

theorem cell_off {S : St} {i o : Nat} {x : AVal} (h : S.cell i o = some x) : o < (S.blk i).cells.length := by
  unfold St.cell at h
  split at h
  · rename_i hb; exact Nat.le_of_ble_eq_true hb
  · cases h

theorem cell_some {S : St} {i o : Nat} (h : o < (S.blk i).cells.length) : ∃ x, S.cell i o = some x := by
  unfold St.cell
  rw [Nat.ble_eq_true_of_le h]
  simp only
  split
  · exact ⟨_, rfl⟩
  · exact ⟨_, rfl⟩

theorem vlook1_append (i : Nat) : ∀ (a b : List (Nat × Vc)), vlook1 i (a ++ b) = match vlook1 i a with | some v => some v | none => vlook1 i b
  | [], b => rfl
  | (k, v) :: r, b => by
    simp only [List.cons_append, vlook1]
    split
    · rfl
    · exact vlook1_append i r b

theorem vec_cells {S : St} {i : Nat} {v : Vc} (h : S.vec i = some v) : (S.blk i).cells = [] := by
  unfold St.vec at h
  split at h
  · assumption
  · cases h

theorem vec_blk {S : St} {i : Nat} {v : Vc} (h : S.vec i = some v) : ∃ u, (S.blk i).vc = some u := by
  unfold St.vec at h
  split at h
  · rename_i u _ h2; exact ⟨u, h2⟩
  · cases h

theorem vec_none_out {S : St} {i : Nat} (h : S.hp.length ≤ i) : S.vec i = none := by
  unfold St.vec St.blk
  rw [nthB_out _ _ h]

theorem vec_lt {S : St} {i : Nat} {v : Vc} (h : S.vec i = some v) : i < S.hp.length := by
  rcases Nat.lt_or_ge i S.hp.length with k | k
  · exact k
  · rw [vec_none_out k] at h; cases h

/-- The state with some cells written and some blocks made. -/
def St.put (S : St) (hv : List ((Nat × Nat) × AVal)) (vv : List (Nat × Vc)) (nw : List Blk) : St := S.ext ⟨[], hv, vv, nw, [], true⟩

theorem put_nil (S : St) : ∀ i o, (S.put [] [] []).cell i o = S.cell i o := by
  intro i o
  simp [St.put, St.ext, St.cell, St.blk, hlookL, hlook1]
theorem put_nilv (S : St) : ∀ i, (S.put [] [] []).vec i = S.vec i := by
  intro i
  simp [St.put, St.ext, St.vec, St.blk, vlookL, vlook1]

theorem Mem.put_nil {M : Addr → Prop} {w0 : World} {ρ : Rho} {S : St} {w : World} (h : Mem M w0 ρ S w) : Mem M w0 ρ (S.put [] [] []) w :=
  h.same (Ab.put_nil S) (fun i => by simp [St.put, St.ext, St.blk]) (put_nilv S) (by simp [St.put, St.ext]) (fun i o x hx => by
    have := h.hp.ink i o x (by simpa [St.put, St.ext, hlookL, hlook1] using hx)
    simpa [St.put, St.ext] using this) (fun i x hx => by
    have := h.hp.vink i x (by simpa [St.put, St.ext, vlookL, vlook1] using hx)
    simpa [St.put, St.ext] using this)

/-! reading -/
theorem Addr_add (r o n : Nat) : Addr.add ⟨r, o, none⟩ n = ⟨r, o + n, none⟩ := by
  unfold Addr.add
  split
  · rename_i h; subst h; rfl
  · rfl

theorem run_loadCellsFrom {P : Program} {w : World} (r o : Nat) : ∀ (n i : Nat) (acc : Array Value) (vs : List Value),
    (vs.length = n) → (∀ j v, vs[j]? = some v → w.cell? ⟨r, o + i + j, none⟩ = some v) → (loadCellsFrom ⟨r, o, none⟩ i n acc).run P w = .ok (acc ++ vs.toArray) w
  | 0, i, acc, vs, hl, _ => by
    have : vs = [] := List.length_eq_zero_iff.1 hl
    subst this
    simp [loadCellsFrom]
  | n + 1, i, acc, vs, hl, hc => by
    cases vs with
    | nil => simp at hl
    | cons v vs =>
      have h0 := hc 0 v rfl
      have ih := run_loadCellsFrom (P := P) (w := w) r o n (i + 1) (acc.push v) vs (by simpa using hl) (fun j u hj => by
        have := hc (j + 1) u (by simpa using hj)
        have e : o + (i + 1) + j = o + i + (j + 1) := by omega
        rw [e]; exact this)
      simp only [loadCellsFrom, Sem.run_bind, Addr_add, run_load]
      simp only [Nat.add_zero] at h0
      rw [h0]
      simp only [Result.andThen_ok, ih]
      simp

theorem Hp.cellsAt {ρ : Rho} {S : St} {w : World} (h : Hp ρ S w) {i r b : Nat} (hr : ρ i = some (r, b)) : ∀ (n o : Nat) (cs : List AVal), S.cellsAt i o n = some cs →
    ∃ vs : List Value, vs.length = n ∧ VL ρ cs vs ∧ ∀ j v, vs[j]? = some v → w.cell? ⟨r, b + o + j, none⟩ = some v
  | 0, o, cs, hc => by
    simp only [St.cellsAt] at hc
    cases hc
    exact ⟨[], rfl, by simp [VL], fun j v hj => by simp at hj⟩
  | n + 1, o, cs, hc => by
    simp only [St.cellsAt] at hc
    split at hc
    · rename_i x hx
      split at hc
      · rename_i cs' hcs
        cases hc
        obtain ⟨r', b', v, h1, h2, h3⟩ := h.cell i o x hx
        rw [hr] at h1; cases h1
        obtain ⟨vs, hl, hv, hcell⟩ := h.cellsAt hr n (o + 1) cs' hcs
        refine ⟨v :: vs, by simp [hl], ?_, fun j u hj => ?_⟩
        · unfold VL; exact ⟨v, vs, rfl, h3, hv⟩
        · cases j with
          | zero => simp at hj; subst hj; simpa using h2
          | succ j =>
            have := hcell j u (by simpa using hj)
            have e : b + o + (j + 1) = b + (o + 1) + j := by omega
            rw [e]; exact this
      · cases hc
    · cases hc

theorem Hp.vcellsAt {ρ : Rho} {S : St} {w : World} (h : Hp ρ S w) {i r b k : Nat} {vc : Vc} (hv : S.vec i = some vc) (hr : ρ i = some (r, b)) (hk : k < vc.n.val) : ∀ (n o : Nat) (cs : List AVal), vc.cellsAt k o n = some cs →
    ∃ vs : List Value, vs.length = n ∧ VL ρ cs vs ∧ ∀ j v, vs[j]? = some v → w.cell? ⟨r, b + (k * lenL vc.sh + o) + j, none⟩ = some v
  | 0, o, cs, hc => by
    simp only [Vc.cellsAt] at hc
    cases hc
    exact ⟨[], rfl, by simp [VL], fun j v hj => by simp at hj⟩
  | n + 1, o, cs, hc => by
    simp only [Vc.cellsAt] at hc
    split at hc
    · rename_i c hcc
      split at hc
      · rename_i cs' hcs
        cases hc
        obtain ⟨v, h2, h3⟩ := h.vcell i vc r b k o c hv hr hk hcc
        obtain ⟨vs, hl, hvl, hcell⟩ := h.vcellsAt hv hr hk n (o + 1) cs' hcs
        refine ⟨v :: vs, by simp [hl], ?_, fun j u hj => ?_⟩
        · unfold VL; exact ⟨v, vs, rfl, h3, hvl⟩
        · cases j with
          | zero => simp at hj; subst hj; simpa using h2
          | succ j =>
            have := hcell j u (by simpa using hj)
            have e : b + (k * lenL vc.sh + o) + (j + 1) = b + (k * lenL vc.sh + (o + 1)) + j := by omega
            rw [e]; exact this
      · cases hc
    · cases hc

/-! writing -/
theorem run_storeCells {P : Program} (r o : Nat) : ∀ (vs : List Value) (i : Nat) (w : World), (∀ v ∈ vs, v.oneCell' = true) →
    (∀ j, j < vs.length → ∃ u, w.cell? ⟨r, o + i + j, none⟩ = some u) → (∀ j, j < vs.length → w.frozen? ⟨r, o + i + j, none⟩ = false) →
    ∃ w', (storeCells ⟨r, o, none⟩ vs i).run P w = .ok () w' ∧ w'.os = w.os ∧ w'.tape = w.tape ∧ w'.output = w.output ∧ w'.heap.size = w.heap.size ∧ (∀ a, w'.frozen? a = w.frozen? a) ∧
      (∀ k, k ≠ r → w'.heap[k]? = w.heap[k]?) ∧ (∀ j v, vs[j]? = some v → w'.cell? ⟨r, o + i + j, none⟩ = some v) ∧
      (∀ a, (∀ j, j < vs.length → a ≠ ⟨r, o + i + j, none⟩) → w'.cell? a = w.cell? a)
  | [], i, w, _, _, _ => ⟨w, by simp [storeCells], rfl, rfl, rfl, rfl, fun _ => rfl, fun _ _ => rfl, fun j v hj => by simp at hj, fun _ _ => rfl⟩
  | v :: vs, i, w, h1, hc, hf => by
    have hv := h1 v (by simp)
    obtain ⟨u, hu⟩ := hc 0 (by simp)
    have hfz := hf 0 (by simp)
    simp only [Nat.add_zero] at hu hfz
    obtain ⟨w', hr, e1, e2, e3, e4, e5, e6, e7, e8⟩ := run_storeCells (P := P) r o vs (i + 1) (w.setCell ⟨r, o + i, none⟩ v) (fun x hx => h1 x (by simp [hx]))
      (fun j hj => by
        obtain ⟨y, hy⟩ := hc (j + 1) (by simp; omega)
        refine ⟨y, ?_⟩
        rw [World.cell?_setCell_other _ _ _ _ (by intro e; simp at e)]
        have e : o + (i + 1) + j = o + i + (j + 1) := by omega
        rw [e]; exact hy)
      (fun j hj => by
        rw [World.frozen?_setCell]
        have := hf (j + 1) (by simp; omega)
        have e : o + (i + 1) + j = o + i + (j + 1) := by omega
        rw [e]; exact this)
    refine ⟨w', ?_, e1, e2, e3, by simpa using e4, fun a => (e5 a).trans (World.frozen?_setCell _ _ _ _), fun k hk => (e6 k hk).trans (Below.heap_setCell _ _ _ _ hk), ?_, ?_⟩
    · simp only [storeCells, Sem.run_bind, Addr_add]
      rw [run_store P w _ v .plain hv, hu]
      simp only [hfz, Bool.false_eq_true, if_false, Result.andThen_ok]
      exact hr
    · intro j x hj
      cases j with
      | zero =>
        simp at hj; subst hj
        rw [Nat.add_zero, e8 _ (fun j _ e => by simp at e)]
        exact World.cell?_setCell_same _ _ _ hu
      | succ j =>
        have := e7 j x (by simpa using hj)
        have e : o + i + (j + 1) = o + (i + 1) + j := by omega
        rw [e]; exact this
    · intro a ha
      rw [e8 a (fun j hj => by have := ha (j + 1) (by simp; omega); have e : o + i + (j + 1) = o + (i + 1) + j := by omega
                               rw [e] at this; exact this)]
      exact World.cell?_setCell_other _ _ _ _ (fun e => ha 0 (by simp) (by rw [Nat.add_zero]; exact e.symm))

theorem hlook1_storeL (i : Nat) : ∀ (vs : List AVal) (o i' o' : Nat), hlook1 i' o' (storeL i o vs) = if i' = i ∧ o ≤ o' ∧ o' < o + vs.length then some (nth (o' - o) vs) else none
  | [], o, i', o' => by
    simp only [storeL, hlook1, List.length_nil, Nat.add_zero]
    rw [if_neg (by omega)]
  | v :: vs, o, i', o' => by
    simp only [storeL, hlook1]
    split
    · rename_i h
      simp only [Bool.and_eq_true] at h
      have h1 := Nat.eq_of_beq_eq_true h.1
      have h2 := Nat.eq_of_beq_eq_true h.2
      subst h1; subst h2
      rw [if_pos (by simp)]
      simp [nth]
    · rename_i h
      have hne : ¬ (i' = i ∧ o' = o) := by
        rintro ⟨rfl, rfl⟩
        simp at h
      rw [hlook1_storeL i vs (o + 1) i' o']
      by_cases hc : i' = i ∧ o + 1 ≤ o' ∧ o' < o + 1 + vs.length
      · rw [if_pos hc, if_pos (by simp; omega)]
        have e : o' - o = (o' - (o + 1)) + 1 := by omega
        rw [e]; rfl
      · rw [if_neg hc, if_neg (by simp only [List.length_cons]; omega)]

theorem cell_put_store {S : St} {i o : Nat} {vs : List AVal} (i' o' : Nat) :
    (S.put (storeL i o vs) [] []).cell i' o' = match S.cell i' o' with
      | none => none
      | some y => if i' = i ∧ o ≤ o' ∧ o' < o + vs.length then some (nth (o' - o) vs) else some y := by
  unfold St.cell
  have eb : (S.put (storeL i o vs) [] []).blk i' = S.blk i' := by simp [St.put, St.ext, St.blk]
  rw [eb]
  cases hb : Nat.ble (o' + 1) (S.blk i').cells.length with
  | false => rfl
  | true =>
    simp only [St.put, St.ext, hlookL, hlook1_storeL]
    by_cases hc : i' = i ∧ o ≤ o' ∧ o' < o + vs.length
    · simp only [hc, and_self, if_true]
      cases hlookL i o' S.hvs <;> rfl
    · simp only [hc, if_false]
      cases hlookL i' o' S.hvs <;> rfl

theorem VL_mem {ρ : Rho} : ∀ (xs : List AVal) (vs : List Value), VL ρ xs vs → allOne xs = true → ∀ v ∈ vs, v.oneCell' = true
  | [], _, h, _, v, hv => by unfold VL at h; subst h; simp at hv
  | x :: xs, _, h, h1, v, hv => by
    unfold VL at h
    obtain ⟨u, us, rfl, h2, h3⟩ := h
    unfold allOne at h1
    split at h1
    · rename_i hx
      rcases List.mem_cons.1 hv with rfl | hv
      · exact V_oneA h2 hx
      · exact VL_mem xs us h3 h1 v hv
    · cases h1

theorem Mem.store {P : Program} {M : Addr → Prop} {w0 : World} {ρ : Rho} {S : St} {w : World} (h : Mem M w0 ρ S w) {i o r b : Nat} {xs : List AVal} {vs : List Value}
    (hr : ρ i = some (r, b)) (hw : (S.blk i).wr = true) (hlen : o + xs.length ≤ (S.blk i).cells.length) (hv : VL ρ xs vs) (h1 : allOne xs = true) :
    ∃ w', (storeCells ⟨r, b + o, none⟩ vs).run P w = .ok () w' ∧ Mem M w0 ρ (S.put (storeL i o xs) [] []) w' := by
  have hl := VL_length xs vs hv
  have hcells : ∀ j, j < vs.length → ∃ x, S.cell i (o + j) = some x := fun j hj => cell_some (by omega)
  obtain ⟨w', hrun, e1, e2, e3, e4, e5, e6, e7, e8⟩ := run_storeCells (P := P) r (b + o) vs 0 w (VL_mem xs vs hv h1)
    (fun j hj => by
      obtain ⟨x, hx⟩ := hcells j hj
      obtain ⟨r', b', v, k1, k2, _⟩ := h.hp.cell i (o + j) x hx
      rw [hr] at k1; cases k1
      exact ⟨v, by rw [Nat.add_zero, Nat.add_assoc]; exact k2⟩)
    (fun j hj => by
      obtain ⟨x, hx⟩ := hcells j hj
      have := h.hp.frz i (o + j) x r b hx hw hr
      rw [Nat.add_zero, Nat.add_assoc]; exact this)
  simp only [Nat.add_zero] at e7 e8
  have hvec : ∀ k, (S.put (storeL i o xs) [] []).vec k = S.vec k := fun k => by simp [St.put, St.ext, St.vec, St.blk, vlookL, vlook1]
  have hnov : S.vec i = none ∨ True := Or.inr trivial
  refine ⟨w', hrun, h.step (M' := fun a => ∃ j, j < vs.length ∧ a = ⟨r, b + o + j, none⟩) ⟨e1, e2, e3, by omega, ?_, ?_, fun a _ => e5 a⟩ ?_ ?_ ?_ ?_ (fun k vc hx => ⟨vc, hvec k ▸ hx, rfl, fun h => ⟨h, Nat.le_refl _⟩⟩) ?_ ?_ (fun k => by simp [St.put, St.ext, St.blk]) (by simp [St.put, St.ext]) ?_ (fun k x hx => by
    have := h.hp.vink k x (by simpa [St.put, St.ext, vlookL, vlook1] using hx)
    simpa [St.put, St.ext] using this)⟩
  · intro k hk hn
    by_cases hkr : k = r
    · -- the block of the store: it has no cell that is written only if there is none
      subst hkr
      cases vs with
      | nil =>
        simp [storeCells] at hrun
        rw [← hrun]
      | cons v vs => exact absurd ⟨0, by simp, rfl⟩ (hn (b + o))
    · exact e6 k hkr
  · intro a ha hn
    exact e8 a (fun j hj e => hn ⟨j, hj, e⟩)
  · rintro a ⟨j, hj, rfl⟩
    obtain ⟨x, hx⟩ := hcells j hj
    exact Or.inl ⟨i, o + j, x, r, b, hx, hw, hr, by rw [Nat.add_assoc]⟩
  · intro i' o' x hx
    rw [cell_put_store] at hx
    cases hy : S.cell i' o' with
    | none => rw [hy] at hx; cases hx
    | some y =>
      rw [hy] at hx
      simp only at hx
      obtain ⟨r', b', v, k1, k2, k3⟩ := h.hp.cell i' o' y hy
      split at hx
      · rename_i hc
        obtain ⟨rfl, hc1, hc2⟩ := hc
        cases hx
        rw [hr] at k1; cases k1
        obtain ⟨u, hu, hvu⟩ := VL_nth xs vs hv (o' - o) (by omega)
        have := e7 (o' - o) u hu
        have e : b + o + (o' - o) = b + o' := by omega
        rw [e] at this
        exact ⟨r, b, u, hr, this, hvu⟩
      · rename_i hc
        cases hx
        refine ⟨r', b', v, k1, ?_, k3⟩
        rw [e8 _ (fun j hj e => ?_)]
        · exact k2
        · simp only [Addr.mk.injEq, and_true] at e
          obtain ⟨rfl, e⟩ := e
          by_cases hii : i' = i
          · subst hii
            rw [hr] at k1; cases k1
            exact hc ⟨rfl, by omega, by omega⟩
          · obtain ⟨x0, hx0⟩ := hcells j hj; exact h.hp.dis i i' _ _ _ (Ne.symm hii) (wrB_iff.2 (Or.inl ⟨_, x0, hx0, hw⟩)) hr k1 (live_cell hy)
  · intro i' o' x hx
    rw [cell_put_store] at hx
    cases hy : S.cell i' o' with
    | none => rw [hy] at hx; cases hx
    | some y => exact ⟨y, rfl⟩
  · intro i' vc r' b' k o' c hx hr' hk hc
    rw [hvec] at hx
    obtain ⟨v, k2, k3⟩ := h.hp.vcell i' vc r' b' k o' c hx hr' hk hc
    by_cases hii : i' = i
    · subst hii
      -- a block of cells is no row
      cases vs with
      | nil =>
        simp [storeCells] at hrun
        rw [← hrun]; exact ⟨v, k2, k3⟩
      | cons v0 vs0 =>
        exfalso
        obtain ⟨x0, hx0⟩ := hcells 0 (by simp)
        have := vec_cells hx
        have h2 := cell_off hx0
        rw [this] at h2; simp at h2
    · refine ⟨v, ?_, k3⟩
      rw [e8 _ (fun j hj e => ?_)]
      · exact k2
      · simp only [Addr.mk.injEq, and_true] at e
        obtain ⟨rfl, e⟩ := e
        obtain ⟨x0, hx0⟩ := hcells j hj; exact h.hp.dis i i' _ _ _ (Ne.symm hii) (wrB_iff.2 (Or.inl ⟨_, x0, hx0, hw⟩)) hr hr' (live_vec hx hc)
  · intro j hj
    rcases live_iff.1 hj with ⟨x, hx⟩ | ⟨v, c, sh, hx, hs⟩
    · rw [cell_put_store] at hx
      cases hy : S.cell j 0 with
      | none => rw [hy] at hx; cases hx
      | some y => exact live_cell hy
    · rw [hvec] at hx
      exact live_iff.2 (Or.inr ⟨v, c, sh, hx, hs⟩)
  · intro i' vc r' b' q v _ _ _ hv0
    by_cases hq : ∃ j, j < vs.length ∧ (⟨r', b' + q, none⟩ : Addr) = ⟨r, b + o + j, none⟩
    · obtain ⟨j, hj, e⟩ := hq
      rw [e]
      exact ⟨vs[j], e7 j vs[j] (List.getElem?_eq_getElem hj)⟩
    · exact ⟨v, by rw [e8 _ (fun j hj e => hq ⟨j, hj, e⟩)]; exact hv0⟩
  · intro i' o' x hx
    simp only [St.put, St.ext, hlookL, hlook1_storeL, List.append_nil] at hx ⊢
    by_cases hc : i' = i ∧ o ≤ o' ∧ o' < o + xs.length
    · obtain ⟨rfl, _, _⟩ := hc
      exact h.hp.dom _ _ hr
    · simp only [hc, if_false] at hx
      exact h.hp.ink i' o' x hx

/-- A new block. -/
def upd (ρ : Rho) (n : Nat) (p : Nat × Nat) (c : Nat) : Rho := ⟨fun i => if i = n then some p else ρ i, fun i => if i = n then c else ρ.cap i, fun i => if i = n then true else ρ.kn i⟩
theorem upd_kn (ρ : Rho) (n : Nat) (p : Nat × Nat) (c : Nat) : (upd ρ n p c).kn n = true := by simp [upd]
theorem upd_okn (ρ : Rho) {n i : Nat} (h : i ≠ n) (p : Nat × Nat) (c : Nat) : (upd ρ n p c).kn i = ρ.kn i := if_neg h

theorem upd_new (ρ : Rho) (n : Nat) (p : Nat × Nat) (c : Nat) : (upd ρ n p c) n = some p := by simp [upd]
theorem upd_cap (ρ : Rho) (n : Nat) (p : Nat × Nat) (c : Nat) : (upd ρ n p c).cap n = c := by simp [upd]
theorem upd_old (ρ : Rho) {n i : Nat} (h : i ≠ n) (p : Nat × Nat) (c : Nat) : (upd ρ n p c) i = ρ i := by simp [upd, h]
theorem upd_ocap (ρ : Rho) {n i : Nat} (h : i ≠ n) (p : Nat × Nat) (c : Nat) : (upd ρ n p c).cap i = ρ.cap i := if_neg h

theorem upd_ext {ρ : Rho} {n : Nat} (h : ∀ i p, ρ i = some p → i < n) (p : Nat × Nat) (c : Nat) : Ext ρ (upd ρ n p c) := ⟨fun i q hq => by
  have := h i q hq
  exact ⟨by rw [upd_old ρ (by omega)]; exact hq, upd_ocap ρ (by omega) p c⟩, fun i hk => by
  by_cases hi : i = n
  · subst hi; exact upd_kn ..
  · rw [upd_okn ρ hi]; exact hk⟩

section
variable {M : Addr → Prop} {w0 : World} {ρ : Rho} {S : St} {w w' : World}

theorem put_blk_old (S : St) (hv : List ((Nat × Nat) × AVal)) (vv : List (Nat × Vc)) (B : Blk) {i : Nat} (h : i < S.hp.length) : (S.put hv vv [B]).blk i = S.blk i := nthB_append_left _ _ _ h
theorem put_blk_new (S : St) (hv : List ((Nat × Nat) × AVal)) (vv : List (Nat × Vc)) (B : Blk) : (S.put hv vv [B]).blk S.hp.length = B := by
  have := nthB_append_right S.hp [B] 0
  simpa [St.put, St.ext, St.blk, nthB] using this
/-- A NEW BLOCK: in a world that has moved on, and with some rows no longer known. -/
theorem Mem.newB (h : Mem M w0 ρ S w) {M' : Addr → Prop} (k : Fr M' w w') (hm : ∀ a, M' a → WrA ρ S a) (B : Blk) (r b c : Nat) (vv : List (Nat × Vc)) (hrlt : r < w'.heap.size)
    (hvv : ∀ i u, vlook1 i vv = some u → u = Vc.none [] ∧ i < S.hp.length)
    -- what was there and is still known is as it was
    (hcell : ∀ i o x r' b' v, S.cell i o = some x → ρ i = some (r', b') → w.cell? ⟨r', b' + o, none⟩ = some v → w'.cell? ⟨r', b' + o, none⟩ = some v)
    (hvec : ∀ i u r' b' q v, S.vec i = some u → S.live i = true → vlook1 i vv = none → ρ i = some (r', b') → w.cell? ⟨r', b' + q, none⟩ = some v → w'.cell? ⟨r', b' + q, none⟩ = some v)
    -- what the new one holds
    (hnc : ∀ o x, o < B.cells.length → x = nth o B.cells → ∃ v, w'.cell? ⟨r, b + o, none⟩ = some v ∧ V (upd ρ S.hp.length (r, b) c) x v)
    (hnf : ∀ o, o < B.cells.length → B.wr = true → w'.frozen? ⟨r, b + o, none⟩ = false)
    (hnv : ∀ u q o ck, B.vc = some u → q < u.n.val → nthC o u.sh = some ck → ∃ v, w'.cell? ⟨r, b + (q * lenL u.sh + o), none⟩ = some v ∧ V (upd ρ S.hp.length (r, b) c) (u.mkA q o ck) v)
    (hnvf : ∀ u q, B.vc = some u → u.wr = true → q < c * lenL u.sh → (∃ v, w'.cell? ⟨r, b + q, none⟩ = some v) ∧ w'.frozen? ⟨r, b + q, none⟩ = false)
    (hnvc : ∀ u, B.vc = some u → u.wr = true → u.n.val ≤ c)
    (hown : ∀ q, (q < B.cells.length ∨ ∃ u, B.vc = some u ∧ q < c * lenL u.sh) → M ⟨r, b + q, none⟩ ∨ w0.heap.size ≤ r)
    -- nobody else lies there
    (hdis : ∀ i r' b', ρ i = some (r', b') → (S.put [] vv [B]).live i = true → r' ≠ r)
    (hdisw : ∀ i r' b', ρ i = some (r', b') → (S.put [] vv [B]).wrB i = true → r' ≠ r) :
    Mem M w0 (upd ρ S.hp.length (r, b) c) (S.put [] vv [B]) w' := by
  have hext : Ext ρ (upd ρ S.hp.length (r, b) c) := upd_ext h.hp.dom _ _
  have hlen : (S.put [] vv [B]).hp.length = S.hp.length + 1 := by simp [St.put, St.ext]
  have hhv : ∀ i o, hlookL i o (S.put [] vv [B]).hvs = hlookL i o S.hvs := fun i o => by simp [St.put, St.ext, hlookL, hlook1]
  have hvvs : ∀ i, vlookL i (S.put [] vv [B]).vvs = match vlook1 i vv with | some u => some u | none => vlookL i S.vvs := fun i => by first | (simp only [St.put, St.ext, vlookL]; done) | (simp only [St.put, St.ext, vlookL]; cases vlook1 i vv <;> rfl)
  have hcello : ∀ i o, i < S.hp.length → (S.put [] vv [B]).cell i o = S.cell i o := fun i o hi => by
    unfold St.cell; rw [put_blk_old _ _ _ _ hi, hhv]
  have hcelln : ∀ o x, (S.put [] vv [B]).cell S.hp.length o = some x → o < B.cells.length ∧ x = nth o B.cells := fun o x hx => by
    have hl := cell_off hx
    rw [put_blk_new] at hl
    refine ⟨hl, ?_⟩
    unfold St.cell at hx
    rw [put_blk_new, Nat.ble_eq_true_of_le hl, hhv] at hx
    cases hk : hlookL S.hp.length o S.hvs with
    | some y => exact absurd (h.hp.ink _ _ _ hk) (by omega)
    | none => rw [hk] at hx; simpa using hx.symm
  have hveco : ∀ i u, i < S.hp.length → (S.put [] vv [B]).vec i = some u → (u = Vc.none [] ∧ ∃ u', S.vec i = some u') ∨ (vlook1 i vv = none ∧ S.vec i = some u) := fun i u hi hu => by
    unfold St.vec at hu ⊢
    rw [put_blk_old _ _ _ _ hi, hvvs] at hu
    split at hu
    · rename_i v hcs hvc
      try rw [hcs, hvc]
      cases hl : vlook1 i vv with
      | some x =>
        rw [hl] at hu
        simp only [Option.some.injEq] at hu
        subst hu
        left
        refine ⟨(hvv i _ hl).1, ?_⟩
        cases vlookL i S.vvs <;> exact ⟨_, rfl⟩
      | none =>
        rw [hl] at hu
        exact Or.inr ⟨rfl, hu⟩
    · cases hu
  have hvecn : ∀ u, (S.put [] vv [B]).vec S.hp.length = some u → B.vc = some u := fun u hu => by
    unfold St.vec at hu
    rw [put_blk_new, hvvs] at hu
    split at hu
    · rename_i v hcs hvc
      cases hl : vlook1 S.hp.length vv with
      | some x => exact absurd (hvv _ _ hl).2 (Nat.lt_irrefl _)
      | none =>
        rw [hl] at hu
        cases hk : vlookL S.hp.length S.vvs with
        | some y => exact absurd (h.hp.vink _ _ hk) (Nat.lt_irrefl _)
        | none => rw [hk] at hu; simp only at hu; rw [hvc]; exact hu
    · cases hu
  have hwro : ∀ i, i < S.hp.length → (S.put [] vv [B]).wrB i = true → S.wrB i = true := fun i hi hw => by
    rcases wrB_iff.1 hw with ⟨o, x, hx, hw⟩ | ⟨v, hv, hw⟩
    · rw [hcello i o hi] at hx
      rw [put_blk_old _ _ _ _ hi] at hw
      exact wrB_iff.2 (Or.inl ⟨o, x, hx, hw⟩)
    · rcases hveco i v hi hv with ⟨rfl, _⟩ | ⟨_, h2⟩
      · simp [Vc.none] at hw
      · exact wrB_iff.2 (Or.inr ⟨v, h2, hw⟩)
  have hliveo : ∀ i, i < S.hp.length → (S.put [] vv [B]).live i = true → S.live i = true := fun i hi hl => by
    rcases live_iff.1 hl with ⟨x, hx⟩ | ⟨v, ck, sh, hx, hs⟩
    · rw [hcello i 0 hi] at hx; exact live_cell hx
    · rcases hveco i v hi hx with ⟨rfl, _⟩ | ⟨_, h2⟩
      · simp [Vc.none] at hs
      · exact live_iff.2 (Or.inr ⟨v, ck, sh, h2, hs⟩)
  refine ⟨⟨?_, ?_, ?_, ?_, ?_, ?_, ?_, ?_, ?_, ?_, ?_⟩, h.fr.trans k (fun a ha => h.own.wrA a (hm a ha)), ⟨?_, ?_⟩⟩
  · intro i o x hx
    have hi := cell_lt hx
    rw [hlen] at hi
    by_cases hin : i = S.hp.length
    · subst hin
      obtain ⟨ho, rfl⟩ := hcelln o x hx
      obtain ⟨v, h1, h2⟩ := hnc o _ ho rfl
      exact ⟨r, b, v, upd_new .., h1, h2⟩
    · rw [hcello i o (by omega)] at hx
      obtain ⟨r', b', v, k1, k2, k3⟩ := h.hp.cell i o x hx
      exact ⟨r', b', v, by rw [upd_old _ hin]; exact k1, hcell i o x r' b' v hx k1 k2, V_ext hext _ _ k3⟩
  · intro i vc r' b' q o ck hx hr hq hck
    have hi := vec_lt hx
    rw [hlen] at hi
    by_cases hin : i = S.hp.length
    · subst hin
      rw [upd_new] at hr; cases hr
      exact hnv vc q o ck (hvecn vc hx) hq hck
    · rw [upd_old _ hin] at hr
      rcases hveco i vc (by omega) hx with ⟨rfl, _⟩ | ⟨h1, h2⟩
      · simp [Vc.none, nthC] at hck
      · obtain ⟨v, k2, k3⟩ := h.hp.vcell i vc r' b' q o ck h2 hr hq hck
        exact ⟨v, hvec i vc r' b' _ v h2 (live_vec h2 hck) h1 hr k2, V_ext hext _ _ k3⟩
  · intro i o x r' b' hx hw hr
    have hi := cell_lt hx
    rw [hlen] at hi
    by_cases hin : i = S.hp.length
    · subst hin
      rw [upd_new] at hr; cases hr
      obtain ⟨ho, rfl⟩ := hcelln o x hx
      rw [put_blk_new] at hw
      exact hnf o ho hw
    · rw [hcello i o (by omega)] at hx
      rw [upd_old _ hin] at hr
      rw [put_blk_old _ _ _ _ (by omega)] at hw
      obtain ⟨r2, b2, v, k1, k2, _⟩ := h.hp.cell i o x hx
      rw [hr] at k1; cases k1
      rw [k.frozen _ (World.block_lt_of_cell? _ _ k2)]
      exact h.hp.frz i o x r' b' hx hw hr
  · intro i vc r' b' q hx hw hr hq
    have hi := vec_lt hx
    rw [hlen] at hi
    by_cases hin : i = S.hp.length
    · subst hin
      rw [upd_new] at hr; cases hr
      rw [upd_cap] at hq
      exact hnvf vc q (hvecn vc hx) hw hq
    · rw [upd_old _ hin] at hr
      rw [upd_ocap _ hin] at hq
      rcases hveco i vc (by omega) hx with ⟨rfl, _⟩ | ⟨h1, h2⟩
      · simp [Vc.none] at hw
      · obtain ⟨⟨v, k1⟩, k2⟩ := h.hp.vfrz i vc r' b' q h2 hw hr hq
        have hlv : S.live i = true := by
          refine live_iff.2 (Or.inr ?_)
          cases hs : vc.sh with
          | nil => rw [hs] at hq; simp [lenL] at hq
          | cons d sh => exact ⟨vc, d, sh, h2, hs⟩
        exact ⟨⟨v, hvec i vc r' b' q v h2 hlv h1 hr k1⟩, by rw [k.frozen _ (World.block_lt_of_cell? _ _ k1)]; exact k2⟩
  · intro i vc r' b' hx hw hr
    have hi := vec_lt hx
    rw [hlen] at hi
    by_cases hin : i = S.hp.length
    · subst hin
      rw [upd_cap]
      exact hnvc vc (hvecn vc hx) hw
    · rw [upd_old _ hin] at hr
      rw [upd_ocap _ hin]
      rcases hveco i vc (by omega) hx with ⟨rfl, _⟩ | ⟨h1, h2⟩
      · simp [Vc.none] at hw
      · exact h.hp.vcap i vc r' b' h2 hw hr
  · intro i j r1 b1 b2 hij hw hr hr' hlv
    by_cases hin : i = S.hp.length
    · subst hin
      rw [upd_new] at hr; cases hr
      rw [upd_old _ (Ne.symm hij)] at hr'
      exact hdis j _ _ hr' hlv rfl
    · rw [upd_old _ hin] at hr
      have hi := h.hp.dom _ _ hr
      by_cases hjn : j = S.hp.length
      · subst hjn
        rw [upd_new] at hr'; cases hr'
        exact hdisw i _ _ hr hw rfl
      · rw [upd_old _ hjn] at hr'
        have hj := h.hp.dom _ _ hr'
        exact h.hp.dis i j r1 b1 b2 hij (hwro i hi hw) hr hr' (hliveo j hj hlv)
  · intro i p hp
    rw [hlen]
    by_cases hin : i = S.hp.length
    · omega
    · rw [upd_old _ hin] at hp
      have := h.hp.dom i p hp
      omega
  · intro i hk
    rw [hlen]
    by_cases hin : i = S.hp.length
    · omega
    · rw [upd_okn _ hin] at hk
      have := h.hp.kdm i hk
      omega
  · intro i o x hx
    rw [hhv] at hx
    have := h.hp.ink i o x hx
    rw [hlen]; omega
  · intro i x hx
    rw [hvvs] at hx
    rw [hlen]
    cases hl : vlook1 i vv with
    | some u => have := (hvv i u hl).2; omega
    | none => rw [hl] at hx; have := h.hp.vink i x hx; omega
  · intro i r' b' hr
    by_cases hin : i = S.hp.length
    · subst hin
      rw [upd_new] at hr; cases hr
      exact hrlt
    · rw [upd_old _ hin] at hr
      exact Nat.lt_of_lt_of_le (h.hp.lt i r' b' hr) k.size
  · intro i o x r' b' hx hw hr
    have hi := cell_lt hx
    rw [hlen] at hi
    by_cases hin : i = S.hp.length
    · subst hin
      rw [upd_new] at hr; cases hr
      exact hown o (Or.inl (hcelln o x hx).1)
    · rw [hcello i o (by omega)] at hx
      rw [upd_old _ hin] at hr
      rw [put_blk_old _ _ _ _ (by omega)] at hw
      exact h.own.cell i o x r' b' hx hw hr
  · intro i vc r' b' q hx hw hr hq
    have hi := vec_lt hx
    rw [hlen] at hi
    by_cases hin : i = S.hp.length
    · subst hin
      rw [upd_new] at hr; cases hr
      rw [upd_cap] at hq
      exact hown q (Or.inr ⟨vc, hvecn vc hx, hq⟩)
    · rw [upd_old _ hin] at hr
      rw [upd_ocap _ hin] at hq
      rcases hveco i vc (by omega) hx with ⟨rfl, _⟩ | ⟨h1, h2⟩
      · simp [Vc.none] at hw
      · exact h.own.vec i vc r' b' q h2 hw hr hq

/-- Cells of the call's own. -/
theorem Mem.alloc (h : Mem M w0 ρ S w) (t : TypeId) {xs : List AVal} {vs : Array Value} (hv : VL ρ xs vs.toList) :
    Ext ρ (upd ρ S.hp.length (w.heap.size, 0) 0) ∧ Mem M w0 (upd ρ S.hp.length (w.heap.size, 0) 0) (S.put [] [] [⟨xs, true, none⟩]) (w.alloc (.cells vs t)) := by
  have hext : Ext ρ (upd ρ S.hp.length (w.heap.size, 0) 0) := upd_ext h.hp.dom _ _
  have k := Fr.alloc w (.cells vs t)
  have hcell : ∀ (r b : Nat) v, w.cell? ⟨r, b, none⟩ = some v → (w.alloc (.cells vs t)).cell? ⟨r, b, none⟩ = some v := fun r b v hv => by
    rw [World.cell?_alloc_lt _ _ _ (World.block_lt_of_cell? _ _ hv)]; exact hv
  refine ⟨hext, h.newB k (fun a ha => ha.elim) ⟨xs, true, none⟩ w.heap.size 0 0 [] (by simp) (fun i u hu => by simp [vlook1] at hu) (fun i o x r' b' v _ _ hv => hcell _ _ _ hv) (fun i u r' b' q v _ _ _ _ hv => hcell _ _ _ hv)
    ?_ ?_ (fun u q o ck hu => by simp at hu) (fun u q hu => by simp at hu) (fun u hu => by simp at hu) (fun q _ => Or.inr h.fr.size) (fun i r' b' hr _ => ?_) (fun i r' b' hr _ => ?_)⟩
  · intro o x ho hx
    subst hx
    obtain ⟨v, hv1, hv2⟩ := VL_nth xs _ hv o ho
    refine ⟨v, ?_, V_ext hext _ _ hv2⟩
    rw [Nat.zero_add, World.cell?_alloc_new, ← Array.getElem?_toList]; exact hv1
  · intro o ho _
    rw [Nat.zero_add]
    exact World.frozen?_alloc_new _ _ _ _
  · have := h.hp.lt i r' b' hr; omega
  · have := h.hp.lt i r' b' hr; omega
end

end Go.Ab

namespace Go.Ab
open Go Go.RowKit

/-! ### 4. One operation -/
section
variable {P : Program} (w : World)

theorem kd_underlying {t : TypeId} {k : Kd} (h : kd P t = some k) : ∃ d, P.underlying t = some d := by
  unfold kd at h
  split at h <;> first | (exact ⟨_, ‹_›⟩) | cases h

theorem run_isAgg {t : TypeId} {k : Kd} (h : kd P t = some k) : (isAgg t).run P w = .ok k.isAgg w := by
  unfold kd at h
  unfold isAgg
  split at h <;> (try cases h) <;> (rename_i hu; simp only [Sem.run_bind, run_underlying hu, Result.andThen_ok])
  all_goals first
    | rfl
    | (rename_i d _; cases d <;> first | rfl | (exfalso; simp_all))

theorem run_sizeOf {t : TypeId} {n : Nat} (h : tsize P t = some n) : (sizeOf t).run P w = .ok n w := by
  unfold tsize at h
  split at h
  · rename_i i hi; cases h; simp [sizeOf, typeInfo, hi]
  · cases h

theorem run_zeroValue {t : TypeId} {z : Value} (h : tzero P t = some z) : (zeroValue t).run P w = .ok z w := by
  unfold tzero at h
  split at h
  · rename_i i hi; simp [zeroValue, typeInfo, hi, h]
  · cases h

theorem kd_struct {t : TypeId} {fs : List Field} (h : kd P t = some (.struct fs)) : P.underlying t = some (.struct fs.toArray) := by
  unfold kd at h
  split at h <;> first | (cases h; done) | skip
  simp only [Option.some.injEq, Kd.struct.injEq] at h
  subst h; assumption
theorem kd_arr {t : TypeId} {n e : Nat} (h : kd P t = some (.arr n e)) : P.underlying t = some (.array n e) := by
  unfold kd at h
  split at h <;> first | (cases h; done) | skip
  simp only [Option.some.injEq, Kd.arr.injEq] at h
  obtain ⟨rfl, rfl⟩ := h; assumption
theorem kd_slice {t : TypeId} {e : Nat} (h : kd P t = some (.slice e)) : P.underlying t = some (.slice e) := by
  unfold kd at h
  split at h <;> first | (cases h; done) | skip
  simp only [Option.some.injEq, Kd.slice.injEq] at h
  subst h; assumption
theorem kd_int {t : TypeId} {k : IntKind} (h : kd P t = some (.int k)) : P.underlying t = some (.int k) := by
  unfold kd at h
  split at h <;> first | (cases h; done) | skip
  simp only [Option.some.injEq, Kd.int.injEq] at h
  subst h; assumption
theorem kd_flt {t : TypeId} {k : FloatKind} (h : kd P t = some (.flt k)) : P.underlying t = some (.float k) := by
  unfold kd at h
  split at h <;> first | (cases h; done) | skip
  simp only [Option.some.injEq, Kd.flt.injEq] at h
  subst h; assumption
theorem isBoolT_spec {t : TypeId} (h : isBoolT P t = true) : P.underlying t = some .bool := by
  unfold isBoolT at h
  split at h
  · rename_i hk
    unfold kd at hk
    split at hk <;> first | (cases hk; done) | assumption
  · cases h

theorem fieldOf_get : ∀ (fs : List Field) (n : Nat) (f : Field), fieldOf fs n = some f → fs[n]? = some f
  | [], _, _, h => by simp [fieldOf] at h
  | x :: fs, 0, f, h => by simpa [fieldOf] using h
  | x :: fs, n + 1, f, h => by simpa [fieldOf] using fieldOf_get fs n f (by simpa [fieldOf] using h)

/-- The old blocks lie where they lay. -/
def ExtS (n : Nat) (ρ ρ' : Rho) : Prop := Ext ρ ρ' ∧ (∀ i, i < n → ρ' i = ρ i) ∧ (∀ i, i < n → ρ'.kn i = ρ.kn i)
theorem ExtS.refl (n : Nat) (ρ : Rho) : ExtS n ρ ρ := ⟨Ext.refl ρ, fun _ _ => rfl, fun _ _ => rfl⟩
theorem ExtS.trans {n : Nat} {a b c : Rho} (h : ExtS n a b) (k : ExtS n b c) : ExtS n a c := ⟨h.1.trans k.1, fun i hi => (k.2.1 i hi).trans (h.2.1 i hi), fun i hi => (k.2.2 i hi).trans (h.2.2 i hi)⟩
theorem ExtS.mono {n m : Nat} {a b : Rho} (h : ExtS n a b) (k : m ≤ n) : ExtS m a b := ⟨h.1, fun i hi => h.2.1 i (by omega), fun i hi => h.2.2 i (by omega)⟩
theorem upd_extS {ρ : Rho} {n : Nat} (h : ∀ i p, ρ i = some p → i < n) (p : Nat × Nat) (c : Nat) : ExtS n ρ (upd ρ n p c) := ⟨upd_ext h p c, fun i hi => upd_old ρ (by omega) p c, fun i hi => upd_okn ρ (by omega) p c⟩
theorem ExtS.known {n : Nat} {ρ ρ' : Rho} (h : ExtS n ρ ρ') (hd : ∀ i p, ρ i = some p → i < n) (hk : ∀ i, ρ.kn i = true → i < n) : Known n ρ ρ' := ⟨h.2.1, fun i p _ hp => (h.1.at_ i p hp).2, hd, hk⟩

/-- What an answer says: the value, the cells written, the blocks made; or a panic. -/
def OpOk (P : Program) (o : Oper) (a : Act) (S : St) (w : World) (M : Addr → Prop) (w0 : World) (ρ : Rho) (out : Out) : Prop :=
  out.nd = true → ∀ (next : Act → World → Prop) (Q : Exit → Act → World → Prop),
    (∀ u w' ρ', ExtS S.hp.length ρ ρ' → (∀ b v, out.pn = some (b, v) → b = false) → V ρ' out.v u → Mem M w0 ρ' (S.put out.hv out.vv out.nw) w' → next (a.put o.dst u) w') →
    (∀ v u w', out.pn = some (true, v) → V ρ v u → Mem M w0 ρ S w' → Q (.panic [{ v := u, recovered := false }]) a w') → o.wp P a w next Q

variable {o : Oper} {a : Act} {S : St} {M : Addr → Prop} {w0 : World} {ρ : Rho}

/-- A plain value, in the world that it got but for draws. -/
theorem OpOk.pureC {c : Bool} {x : AVal} {u : Value} {w' : World} (h : Mem M w0 ρ S w) (hd : c = true → Drawn w w') (hrun : c = true → (execOp a.eval o).run P w = .ok (.value u) w') (hv : c = true → V ρ x u) :
    OpOk P o a S w M w0 ρ ⟨x, [], [], [], c, none⟩ := by
  intro hc next Q hn _
  have hc : c = true := hc
  unfold Oper.wp
  rw [hrun hc, Oper.upon_value]
  have hf := Fr.drawn (hd hc)
  exact hn u w' ρ (ExtS.refl _ _) (fun b v hb => by cases hb) (hv hc) (h.quiet hf).put_nil

theorem OpOk.pure {x : AVal} {u : Value} {w' : World} (h : Mem M w0 ρ S w) (hd : Drawn w w') (hrun : (execOp a.eval o).run P w = .ok (.value u) w') (hv : V ρ x u) :
    OpOk P o a S w M w0 ρ ⟨x, [], [], [], true, none⟩ := OpOk.pureC w h (fun _ => hd) (fun _ => hrun) (fun _ => hv)

theorem OpOk.pure0 {x : AVal} {u : Value} (h : Mem M w0 ρ S w) (hrun : (execOp a.eval o).run P w = .ok (.value u) w) (hv : V ρ x u) :
    OpOk P o a S w M w0 ρ ⟨x, [], [], [], true, none⟩ := OpOk.pure w h (Or.inl rfl) hrun hv

theorem OpOk.need {c : Bool} {x : AVal} {u : Value} (h : Mem M w0 ρ S w) (hrun : c = true → (execOp a.eval o).run P w = .ok (.value u) w) (hv : c = true → V ρ x u) :
    OpOk P o a S w M w0 ρ ⟨x, [], [], [], c, none⟩ := OpOk.pureC w h (fun _ => Or.inl rfl) hrun hv

/-- A number with a lower bound is a number. -/
theorem unlint_V {x : AVal} {v : Value} (h : V ρ x v) : V ρ (unlint x) v := by
  unfold unlint
  split
  · unfold V at h ⊢; exact h.1
  · exact h

theorem arith_run {op : BinOp} {k : IntKind} {x y n : Int} (h : arith op k x y = some n) (t : TypeId) : (binOp op t (.int k x) (.int k y)).run P w = .ok (.int k n) w := by
  cases op <;> simp only [arith] at h <;> first | (cases h; done) | skip
  case quo =>
    split at h
    · cases h
    · cases h
      rename_i m
      simp only [binOp, Op.intDiv, ne_eq, not_true_eq_false, if_false]
      have hne : ¬ Int.ofNat m.succ = 0 := fun h => absurd (Int.ofNat.inj h) (Nat.succ_ne_zero m)
      rw [if_neg hne]
      rfl
    · cases h
  case rem =>
    split at h
    · cases h
    · cases h
      rename_i m
      simp only [binOp, Op.intDiv, ne_eq, not_true_eq_false, if_false]
      have hne : ¬ Int.ofNat m.succ = 0 := fun h => absurd (Int.ofNat.inj h) (Nat.succ_ne_zero m)
      rw [if_neg hne]
      rfl
    · cases h
  case shr =>
    split at h
    · cases h
      rename_i m
      simp only [binOp, Op.shift]
      rw [if_neg (by simp)]
      rfl
    · cases h
  all_goals (cases h; first | (simp [binOp, Op.intArith]; done) | (simp only [binOp, ne_eq, not_true_eq_false, if_false]; rfl))

theorem icmp_run {op : BinOp} {k : IntKind} {x y : Int} {c : Bool} (h : icmp op x y = some c) (t : TypeId) : (binOp op t (.int k x) (.int k y)).run P w = .ok (.bool c) w := by
  cases op <;> simp only [icmp] at h <;> first | (cases h; done) | skip
  all_goals (cases h; simp [binOp, Op.intCmp])

theorem beqV_run {op : BinOp} {x y c : Bool} (h : beqV op x y = some c) {t : TypeId} (ht : isBoolT P t = true) : (binOp op t (.bool x) (.bool y)).run P w = .ok (.bool c) w := by
  cases op <;> simp only [beqV] at h <;> first | (cases h; done) | skip
  · cases h; exact run_eql_bool w t x y (isBoolT_spec ht)
  · cases h; exact run_neq_bool w t x y (isBoolT_spec ht)

theorem evC_sound {op : BinOp} {c d : Bool} {k : IntKind} {a b a' b' : Int} {z : AVal} (h : evC op c d k a b = some z) (ha : c = true → a' = a) (hb : d = true → b' = b) (t : TypeId) :
    ∃ r, (binOp op t (.int k a') (.int k b')).run P w = .ok r w ∧ V ρ z r := by
  unfold evC at h
  split at h
  · cases h
  · cases h
  · cases h
  rename_i hq hq2 hq3
  split at h
  · rename_i n hn; cases h
    obtain ⟨n', hn'⟩ : ∃ n', arith op k a' b' = some n' := by
      cases op <;> simp only [arith] at hn ⊢ <;> first | exact ⟨_, rfl⟩ | (exact absurd rfl hq) | (exact absurd rfl hq2) | (exact absurd rfl hq3) | cases hn
    refine ⟨_, arith_run w hn' t, ?_⟩
    unfold V
    refine ⟨n', rfl, fun hcd => ?_⟩
    simp only [Bool.and_eq_true] at hcd
    rw [ha hcd.1, hb hcd.2, hn] at hn'
    exact (Option.some.inj hn').symm
  · split at h
    · rename_i e he; cases h
      obtain ⟨e', he'⟩ : ∃ e', icmp op a' b' = some e' := by
        cases op <;> simp only [icmp] at he ⊢ <;> first | exact ⟨_, rfl⟩ | cases he
      refine ⟨_, icmp_run w he' t, ?_⟩
      unfold V
      refine ⟨e', rfl, fun hcd => ?_⟩
      simp only [Bool.and_eq_true] at hcd
      rw [ha hcd.1, hb hcd.2, he] at he'
      exact (Option.some.inj he').symm
    · cases h

/-- 'x op y'. -/
theorem evBin0_sound {t : TypeId} {op : BinOp} {x y z : AVal} {u v : Value} (h : evBin0 P t op x y = some z) (hx : V ρ x u) (hy : V ρ y v) :
    ∃ r w', (binOp op t u v).run P w = .ok r w' ∧ V ρ z r ∧ Drawn w w' ∧ (∀ (p q : Operand), eqGuard op t p q u v = Pure.pure ()) := by
  unfold evBin0 at h
  split at h
  all_goals first | (cases h; done) | skip
  all_goals (unfold V at hx hy)
  -- integers
  case h_1 | h_2 | h_3 | h_4 =>
    subst hx; subst hy
    split at h
    · rename_i hk; have hk := of_decide_eq_true hk; subst hk
      split at h
      · rename_i n hn; cases h
        exact ⟨_, w, arith_run w hn t, by unfold V; rfl, Or.inl rfl, fun p q => eqGuard_at_int ..⟩
      · split at h
        · rename_i c hc; cases h
          exact ⟨_, w, icmp_run w hc t, by unfold V; rfl, Or.inl rfl, fun p q => eqGuard_at_int ..⟩
        · cases h
    · cases h
  -- integers that are as told under a condition
  case h_5 | h_6 =>
    obtain ⟨n', rfl, hn⟩ := hx
    subst hy
    split at h
    · rename_i hk; have hk := of_decide_eq_true hk; subst hk
      obtain ⟨r, h1, h2⟩ := evC_sound (P := P) (ρ := ρ) w h hn (fun _ => rfl) t
      exact ⟨r, w, h1, h2, Or.inl rfl, fun p q => eqGuard_at_int ..⟩
    · cases h
  case h_7 | h_8 =>
    obtain ⟨n', rfl, hn⟩ := hy
    subst hx
    split at h
    · rename_i hk; have hk := of_decide_eq_true hk; subst hk
      obtain ⟨r, h1, h2⟩ := evC_sound (P := P) (ρ := ρ) w h (fun _ => rfl) hn t
      exact ⟨r, w, h1, h2, Or.inl rfl, fun p q => eqGuard_at_int ..⟩
    · cases h
  case h_9 =>
    obtain ⟨n', rfl, hn⟩ := hx
    obtain ⟨m', rfl, hm⟩ := hy
    split at h
    · rename_i hk; have hk := of_decide_eq_true hk; subst hk
      obtain ⟨r, h1, h2⟩ := evC_sound (P := P) (ρ := ρ) w h hn hm t
      exact ⟨r, w, h1, h2, Or.inl rfl, fun p q => eqGuard_at_int ..⟩
    · cases h
  -- floats
  case h_10 =>
    obtain ⟨a', rfl, ha, wa, wa'⟩ := hx
    obtain ⟨b', rfl, hb, wb, wb'⟩ := hy
    split at h
    · rename_i hk; have hk := of_decide_eq_true hk; subst hk
      split at h
      · rename_i hop; cases h
        obtain ⟨r, w', h1, h2, h2w, h3⟩ := run_fop (P := P) w op t _ hop ha hb
        exact ⟨_, w', h1, by unfold V; exact ⟨r, rfl, h2, fop_wf .., h2w⟩, h3, fun p q => eqGuard_at_float ..⟩
      · split at h
        · rename_i c hc; cases h
          exact ⟨_, w, run_fcmp w op t _ hc ha hb, by unfold V; rfl, Or.inl rfl, fun p q => eqGuard_at_float ..⟩
        · cases h
    · cases h
  -- bools
  all_goals
    subst hx; subst hy
    split at h
    · rename_i ht
      split at h
      · rename_i c hc; cases h
        exact ⟨_, w, beqV_run w hc ht, by unfold V; rfl, Or.inl rfl, fun p q => eqGuard_at_bool ..⟩
      · cases h
    · cases h

theorem cmpLint_sound {t : TypeId} {op : BinOp} {x y : AVal} {b : Bool} {u v : Value} (h : cmpLint op x y = some b) (hx : V ρ x u) (hy : V ρ y v) :
    (binOp op t u v).run P w = .ok (.bool b) w ∧ (∀ (p q : Operand), eqGuard op t p q u v = Pure.pure ()) := by
  unfold cmpLint at h
  split at h
  · rename_i k lo n k' c
    unfold V at hx hy
    obtain ⟨rfl, hlo⟩ := hx
    subst hy
    split at h
    · rename_i hk; have hk := of_decide_eq_true hk; subst hk
      refine ⟨?_, fun p q => eqGuard_at_int ..⟩
      have hl : (lo : Int) ≤ Int.ofNat n := Int.ofNat_le.2 hlo
      cases op <;> simp only at h <;> try (cases h; done)
      all_goals
        split at h <;> try (cases h; done)
        rename_i hc
        have hc := of_decide_eq_true hc
        have hc2 := hc
        simp only [Int.ofNat_eq_natCast] at hc2 hl
        cases h
        refine icmp_run w ?_ t
        simp only [icmp, Option.some.injEq, Int.ofNat_eq_natCast]
        first
          | (exact decide_eq_true (by omega))
          | (exact decide_eq_false (by omega))
          | (rw [beq_eq_false_iff_ne]; omega)
          | (rw [bne_iff_ne]; omega)
    · cases h
  · rename_i k' c k lo n
    unfold V at hx hy
    obtain ⟨rfl, hlo⟩ := hy
    subst hx
    split at h
    · rename_i hk; have hk := of_decide_eq_true hk; subst hk
      refine ⟨?_, fun p q => eqGuard_at_int ..⟩
      have hl : (lo : Int) ≤ Int.ofNat n := Int.ofNat_le.2 hlo
      cases op <;> simp only at h <;> try (cases h; done)
      all_goals
        split at h <;> try (cases h; done)
        rename_i hc
        have hc := of_decide_eq_true hc
        have hc2 := hc
        simp only [Int.ofNat_eq_natCast] at hc2 hl
        cases h
        refine icmp_run w ?_ t
        simp only [icmp, Option.some.injEq, Int.ofNat_eq_natCast]
        first
          | (exact decide_eq_true (by omega))
          | (exact decide_eq_false (by omega))
          | (rw [beq_eq_false_iff_ne]; omega)
          | (rw [bne_iff_ne]; omega)
    · cases h
  · cases h

theorem evBin_sound {t : TypeId} {op : BinOp} {x y z : AVal} {u v : Value} (h : evBin P t op x y = some z) (hx : V ρ x u) (hy : V ρ y v) :
    ∃ r w', (binOp op t u v).run P w = .ok r w' ∧ V ρ z r ∧ Drawn w w' ∧ (∀ (p q : Operand), eqGuard op t p q u v = Pure.pure ()) := by
  unfold evBin at h
  split at h
  · rename_i b hb; cases h
    obtain ⟨h1, h2⟩ := cmpLint_sound (P := P) w (t := t) hb hx hy
    exact ⟨_, w, h1, by unfold V; rfl, Or.inl rfl, h2⟩
  · exact evBin0_sound w h (unlint_V hx) (unlint_V hy)

theorem evUn_sound {op : UnOp} {x z : AVal} {u : Value} (h : evUn op x = some z) (hx : V ρ x u) : ∃ r, (Op.unary op u).run P w = .ok r w ∧ V ρ z r := by
  unfold evUn at h
  split at h
  all_goals first | (cases h; done) | skip
  all_goals (cases h; unfold V at hx)
  case h_1 | h_2 => subst hx; exact ⟨_, rfl, by unfold V; rfl⟩
  case h_3 => obtain ⟨b', rfl, hb⟩ := hx; exact ⟨_, rfl, by unfold V; exact ⟨!b', rfl, fun h => by rw [hb h]⟩⟩
  case h_4 | h_5 => subst hx; exact ⟨_, rfl, by unfold V; rfl⟩
  case h_6 k b =>
    obtain ⟨b', rfl, hb, wb, wb'⟩ := hx
    refine ⟨_, rfl, ?_⟩
    unfold V
    refine ⟨_, rfl, ?_, fneg_wf wb, fneg_wf wb'⟩
    unfold fneg
    rcases hb with rfl | ⟨h1, h2⟩
    · exact Or.inl rfl
    · right
      exact ⟨neg_nan h1, neg_nan h2⟩
where
  neg_nan {k : FloatKind} {b : Nat} (h : isNaNW k b = true) : isNaNW k (Op.negFloat k b) = true := by
    have key : Op.negFloat k b % k.format.signWeight = b % k.format.signWeight := by
      unfold Op.negFloat
      show (b ^^^ 2 ^ (k.format.exponentBits + k.format.fractionBits)) % 2 ^ (k.format.exponentBits + k.format.fractionBits) = b % 2 ^ (k.format.exponentBits + k.format.fractionBits)
      rw [Nat.xor_mod_two_pow]; simp
    obtain ⟨s, f, hr⟩ := isNaN_read h
    unfold isNaNW
    unfold Ieee.Format.read at hr ⊢
    simp only [key]
    simp only at hr
    split at hr
    · cases hr
    · rename_i h1
      split at hr
      · cases hr
      · rename_i h2
        split at hr
        · cases hr
        · rename_i h3
          rw [if_neg h1, if_neg h2, if_neg h3]; rfl
end
end Go.Ab

namespace Go.Ab
open Go Go.RowKit

section
variable {P : Program} (w : World) {ρ : Rho}

theorem evConv0_sound {src dst : TypeId} {x z : AVal} {u : Value} (h : evConv0 P src dst x = some z) (hx : V ρ x u) :
    ∃ r w', (convert src dst u).run P w = .ok r w' ∧ V ρ z r ∧ Drawn w w' := by
  unfold evConv0 at h
  split at h
  · cases h
  rename_i ks hks
  obtain ⟨ds, hs⟩ := kd_underlying hks
  split at h
  all_goals first | (cases h; done) | skip
  all_goals (cases h; rename_i hd; unfold V at hx)
  case h_1 | h_2 =>
    have hd := kd_int hd
    subst hx
    refine ⟨_, w, ?_, by unfold V; rfl, Or.inl rfl⟩
    unfold convert; simp only [Sem.run_bind, run_underlying hs, run_underlying hd, Result.andThen_ok]; cases ds <;> rfl
  case h_3 =>
    have hd := kd_int hd
    obtain ⟨n', rfl, hn⟩ := hx
    rename_i k1 _ _ n1 _
    refine ⟨.int k1 (k1.wrap n'), w, ?_, by unfold V; exact ⟨_, rfl, fun h => by rw [hn h]⟩, Or.inl rfl⟩
    unfold convert; simp only [Sem.run_bind, run_underlying hs, run_underlying hd, Result.andThen_ok]; cases ds <;> rfl
  case h_4 | h_5 =>
    have hd := kd_flt hd
    subst hx
    refine ⟨_, w, ?_, by unfold V; exact ⟨_, rfl, Or.inl (by rw [ofInt_eq]), ofInt_wf .., by rw [← ofInt_eq]; exact ofInt_wf ..⟩, Or.inl rfl⟩
    exact run_convert_int_float w src dst _ _ _ (by rw [hs]; rfl) hd
  case h_6 =>
    have hd := kd_flt hd
    obtain ⟨b', rfl, hb, _, _⟩ := hx
    obtain ⟨r, w', h1, h2, h2w, h3⟩ := run_wide (P := P) w hb
    refine ⟨_, w', ?_, by unfold V; exact ⟨r, rfl, h2, wide_wf _, h2w⟩, h3⟩
    unfold convert; simp only [Sem.run_bind, run_underlying hs, run_underlying hd, Result.andThen_ok]; cases ds <;> exact h1
  case h_7 | h_8 =>
    have hd := kd_flt hd
    obtain ⟨b', rfl, hb⟩ := hx
    refine ⟨.float _ b', w, ?_, by unfold V; exact ⟨_, rfl, hb⟩, Or.inl rfl⟩
    unfold convert; simp only [Sem.run_bind, run_underlying hs, run_underlying hd, Result.andThen_ok]; cases ds <;> rfl

theorem evConv_sound {src dst : TypeId} {x z : AVal} {u : Value} (h : evConv P src dst x = some z) (hx : V ρ x u) :
    ∃ r w', (convert src dst u).run P w = .ok r w' ∧ V ρ z r ∧ Drawn w w' := evConv0_sound w h (unlint_V hx)

theorem evNrw_sound {src dst : TypeId} {x z : AVal} {c : Bool} {u : Value} (h : evNrw P src dst x = some (c, z)) (hx : V ρ x u) (hc : c = true) :
    ∃ r w', (convert src dst u).run P w = .ok r w' ∧ V ρ z r ∧ Drawn w w' := by
  unfold evNrw at h
  split at h
  · cases h
  rename_i ks hks
  obtain ⟨ds, hs⟩ := kd_underlying hks
  split at h
  · rename_i hd
    cases h
    unfold V at hx
    have hd := kd_flt hd
    obtain ⟨b', rfl, hb, _, _⟩ := hx
    obtain ⟨r, w', h1, h2, h2w, h3⟩ := run_nrw (P := P) w hb hc
    refine ⟨_, w', ?_, by unfold V; exact ⟨r, rfl, h2, nrw_wf _, h2w⟩, h3⟩
    unfold convert; simp only [Sem.run_bind, run_underlying hs, run_underlying hd, Result.andThen_ok]; cases ds <;> exact h1
  · rename_i hd
    cases h
    unfold V at hx
    have hd := kd_int hd
    obtain ⟨b', rfl, hb, _, _⟩ := hx
    have h1 := run_f2i (P := P) w hb hc
    refine ⟨_, w, ?_, by unfold V; rfl, Or.inl rfl⟩
    unfold convert; simp only [Sem.run_bind, run_underlying hs, run_underlying hd, Result.andThen_ok]; cases ds <;> exact h1
  · cases h

theorem run_part {t : TypeId} {cs : List AVal} {vs : List Value} {o : Nat} {z : AVal} (h : partV P t cs o = some z) (hv : VL ρ cs vs) :
    ∃ r, (part t ⟨vs⟩ o).run P w = .ok r w ∧ V ρ z r := by
  unfold partV at h
  split at h
  · rename_i k n hk hn
    have hl := VL_length cs vs hv
    split at h
    · rename_i ha
      split at h
      · rename_i hb; cases h
        have hb := Nat.le_of_ble_eq_true hb
        refine ⟨.agg ⟨(vs.drop o).take n⟩, ?_, ?_⟩
        · unfold part
          simp only [Sem.run_bind, run_isAgg w hk, Result.andThen_ok, ha, if_true, run_sizeOf w hn, Sem.run_pure]
          have : (⟨vs⟩ : Array Value).extract o (o + n) = ⟨(vs.drop o).take n⟩ := by
            apply Array.ext'
            simp [List.extract_eq_take_drop]
          rw [this]
        · unfold V; exact ⟨_, rfl, VL_take n _ _ (VL_drop o _ _ hv)⟩
      · cases h
    · rename_i ha
      split at h
      · rename_i hb; cases h
        have hb := Nat.le_of_ble_eq_true hb
        obtain ⟨v, h1, h2⟩ := VL_nth cs vs hv o (by omega)
        refine ⟨v, ?_, h2⟩
        unfold part
        have : (⟨vs⟩ : Array Value)[o]? = some v := by simpa using h1
        simp only [Sem.run_bind, run_isAgg w hk, Result.andThen_ok, ha, Bool.false_eq_true, if_false, this, Sem.run_pure]
      · cases h
  · cases h

theorem idxOf_spec {i : AVal} {len m : Nat} {u : Value} (h : idxOf i len = some m) (hu : V ρ i u) : ∃ k, u = .int k (m : Int) ∧ m < len := by
  unfold idxOf at h
  split at h
  · rename_i k n
    unfold V at hu
    split at h
    · rename_i m' hm
      split at h
      · rename_i hb; cases h
        unfold natOf at hm
        split at hm
        · cases hm; exact ⟨k, hu, Nat.le_of_ble_eq_true hb⟩
        · cases hm
      · cases h
    · cases h
  · cases h

/-- 'array[i]' of a value. -/
theorem run_index_arr {t e n : Nat} {cs : List AVal} {vs : List Value} {m sz : Nat} {k : IntKind} {z : AVal} (ht : P.underlying t = some (.array n e)) (hm : m < n) (hsz : tsize P e = some sz)
    (hz : partV P e cs (m * sz) = some z) (hv : VL ρ cs vs) : ∃ r, (Instr.index t (.agg ⟨vs⟩) (.int k m)).run P w = .ok r w ∧ V ρ z r := by
  obtain ⟨r, h1, h2⟩ := run_part w hz hv
  refine ⟨r, ?_, h2⟩
  unfold Instr.index
  simp only [Sem.run_bind, asIntOf, Sem.run_pure, Result.andThen_ok, run_underlying ht]
  rw [if_pos (by omega)]
  simp only [Sem.run_bind, run_sizeOf w hsz, Result.andThen_ok, Int.toNat_natCast, h1]

theorem run_field {t : Nat} {fs : List Field} {f : Nat} {fd : Field} {cs : List AVal} {vs : List Value} {z : AVal} (ht : P.underlying t = some (.struct fs.toArray)) (hf : fieldOf fs f = some fd)
    (hz : partV P fd.type cs fd.offset = some z) (hv : VL ρ cs vs) : ∃ r, (Instr.field t (.agg ⟨vs⟩) f).run P w = .ok r w ∧ V ρ z r := by
  obtain ⟨r, h1, h2⟩ := run_part w hz hv
  refine ⟨r, ?_, h2⟩
  unfold Instr.field
  have := fieldOf_get fs f fd hf
  simp only [Sem.run_bind, run_underlying ht, Result.andThen_ok, List.getElem?_toArray, this, asAgg, Sem.run_pure, h1]

theorem run_fieldAt {s : Nat} {fs : List Field} {f n : Nat} {fd : Field} {r b : Nat} (ht : P.underlying s = some (.struct fs.toArray)) (hf : fieldOf fs f = some fd) (hn : tsize P fd.type = some n) (hn0 : n ≠ 0) :
    (Instr.fieldAt s (.pointer (some ⟨r, b, none⟩)) f).run P w = .ok (.pointer (some ⟨r, b + fd.offset, none⟩)) w := by
  unfold Instr.fieldAt
  have := fieldOf_get fs f fd hf
  simp only [Sem.run_bind, run_underlying ht, Result.andThen_ok, List.getElem?_toArray, this, Instr.sureAddr, Sem.run_pure, fieldPlace, run_sizeOf w hn]
  rw [if_neg hn0]
  simp [Addr_add]

theorem run_indexAt_arr {t e n m sz : Nat} {k : IntKind} {r b : Nat} (ht : P.underlying t = some (.array n e)) (hm : m < n) (hsz : tsize P e = some sz) :
    (Instr.indexAt t (.pointer (some ⟨r, b, none⟩)) (.int k m)).run P w = .ok (.pointer (some ⟨r, b + m * sz, none⟩)) w := by
  unfold Instr.indexAt
  simp only [Sem.run_bind, asIntOf, Sem.run_pure, Result.andThen_ok, run_underlying ht, Instr.sureAddr]
  rw [if_pos (by omega)]
  simp [run_sizeOf w hsz, Addr_add]

theorem run_indexAt_slice {t e l c m sz : Nat} {k : IntKind} {r b : Nat} (ht : P.underlying t = some (.slice e)) (hm : m < l) (hsz : tsize P e = some sz) :
    (Instr.indexAt t (.slice (some ⟨r, b, none⟩) l c) (.int k m)).run P w = .ok (.pointer (some ⟨r, b + m * sz, none⟩)) w := by
  unfold Instr.indexAt
  simp only [Sem.run_bind, asIntOf, Sem.run_pure, Result.andThen_ok, run_underlying ht, Instr.sureAddr]
  rw [if_pos (by omega)]
  simp [run_sizeOf w hsz, Addr_add]

theorem run_loadAt {S : St} {t i o : Nat} {k : Kd} {n r b : Nat} (h : Hp ρ S w) (hk : kd P t = some k) (hn : tsize P t = some n) (hr : ρ i = some (r, b)) :
    (∀ cs, k.isAgg = true → S.cellsAt i o n = some cs → ∃ vs, (Instr.loadAt t (.pointer (some ⟨r, b + o, none⟩))).run P w = .ok (.agg ⟨vs⟩) w ∧ VL ρ cs vs) ∧
    (∀ x, k.isAgg = false → S.cell i o = some x → ∃ v, (Instr.loadAt t (.pointer (some ⟨r, b + o, none⟩))).run P w = .ok v w ∧ V ρ x v) := by
  refine ⟨fun cs ha hc => ?_, fun x ha hc => ?_⟩
  · obtain ⟨vs, hl, hv, hcell⟩ := h.cellsAt hr n o cs hc
    refine ⟨vs, ?_, hv⟩
    have := run_loadCellsFrom (P := P) (w := w) r (b + o) n 0 #[] vs hl (fun j v hj => by rw [Nat.add_zero]; exact hcell j v hj)
    simp only [Instr.loadAt, Instr.sureAddr, Sem.run_bind, Sem.run_pure, Result.andThen_ok, loadVar, run_isAgg w hk, ha, if_true, run_sizeOf w hn, loadCells, this]
    simp
  · obtain ⟨r', b', v, h1, h2, h3⟩ := h.cell i o x hc
    rw [hr] at h1; cases h1
    refine ⟨v, ?_, h3⟩
    simp only [Instr.loadAt, Instr.sureAddr, Sem.run_bind, Sem.run_pure, Result.andThen_ok, loadVar, run_isAgg w hk, ha, Bool.false_eq_true, if_false, run_load, h2]

/-! arrays and structs compared as wholes -/
theorem intOf_V {x : AVal} {k : IntKind} {n : Int} {u : Value} (h : intOf x = some (k, n)) (hv : V ρ x u) : u = .int k n := by
  unfold intOf at h
  split at h <;> first | (cases h; unfold V at hv; exact hv) | cases h
theorem minmax_sound {mx : Bool} {args : List AVal} {z : AVal} {vs : List Value} (h : minmax mx args = some z) (hv : VL ρ args vs) (t : Array TypeId) (ty : TypeId) :
    ∃ r w', ((if mx then Builtin.max_ t ty ⟨vs⟩ else Builtin.min_ t ty ⟨vs⟩) : Sem Value).run P w = .ok r w' ∧ V ρ z r ∧ Drawn w w' := by
  unfold minmax at h
  split at h
  · rename_i k a k' b
    unfold VL at hv
    obtain ⟨v, vs', rfl, hv1, hv⟩ := hv
    unfold VL at hv
    obtain ⟨v', vs'', rfl, hv2, hv⟩ := hv
    unfold VL at hv
    subst hv
    unfold V at hv1 hv2
    obtain ⟨a', rfl, ha, wa, wa'⟩ := hv1
    obtain ⟨b', rfl, hb, wb, wb'⟩ := hv2
    split at h
    · rename_i hk; have hk := of_decide_eq_true hk; subst hk
      split at h <;> cases h
      · rename_i hk0 _
        have wb0 : wfW k b := wb
        obtain ⟨r, w', h1, h2, h2w, h3⟩ := run_max2 (P := P) w k ha hb wa' wb'
        exact ⟨.float k r, w', by simp [Builtin.max_, h1], by unfold V; exact ⟨r, rfl, h2, fmax_wf wa wb0, h2w⟩, h3⟩
      · rename_i hk0 _
        have wb0 : wfW k b := wb
        obtain ⟨r, w', h1, h2, h2w, h3⟩ := run_min2 (P := P) w k ha hb wa' wb'
        exact ⟨.float k r, w', by simp [Builtin.min_, h1], by unfold V; exact ⟨r, rfl, h2, fmin_wf wa wb0, h2w⟩, h3⟩
    · cases h
  · rename_i x y _
    unfold VL at hv
    obtain ⟨v, vs', rfl, hv1, hv⟩ := hv
    unfold VL at hv
    obtain ⟨v', vs'', rfl, hv2, hv⟩ := hv
    unfold VL at hv
    subst hv
    split at h
    · rename_i k a k' b hx hy
      have e1 := intOf_V hx hv1
      have e2 := intOf_V hy hv2
      subst e1; subst e2
      split at h
      · rename_i hk; have hk := of_decide_eq_true hk; subst hk
        split at h <;> cases h
        · refine ⟨.int k (cond (decide (a < b)) b a), w, ?_, by unfold V; rfl, Or.inl rfl⟩
          by_cases hab : a < b
          · simp [Builtin.max_, Builtin.max2, hab]
          · simp [Builtin.max_, Builtin.max2, hab]
        · refine ⟨.int k (cond (decide (b < a)) b a), w, ?_, by unfold V; rfl, Or.inl rfl⟩
          by_cases hab : b < a
          · simp [Builtin.min_, Builtin.min2, hab]
          · simp [Builtin.min_, Builtin.min2, hab]
      · cases h
    · cases h
  · cases h

theorem boolOf_V {x : AVal} {b : Bool} {u : Value} (h : boolOf x = some b) (hv : V ρ x u) : u = .bool b := by
  unfold boolOf at h
  split at h <;> first | (cases h; unfold V at hv; exact hv) | cases h

theorem ab_equalIn_float (d : Nat) (t : TypeId) {kf k : FloatKind} {a a' b b' : Nat} (hk : kd P t = some (.flt kf)) (ha : sameW k a a') (hb : sameW k b b') :
    (Op.equalIn (d + 1) t (.float k a') (.float k b')).run P w = .ok (feqB k a b) w := by
  have ho := order_same ha hb
  have hu : P.underlying t = some (.float kf) := by
    unfold kd at hk
    split at hk <;> first | (cases hk; assumption) | (cases hk; done)
  simp [Op.equalIn, run_underlying hu, Op.floatEq, ho, feqB_eq, feqImpl]
theorem cellEq_spec {t : TypeId} {x y : AVal} {b : Bool} (h : cellEq P t x y = some b) : (∃ k, kd P t = some k ∧ k.isAgg = false) ∧ tsize P t = some 1 ∧ ∀ (d : Nat) (u v : Value), V ρ x u → V ρ y v → (Op.equalIn (d + 1) t u v).run P w = .ok b w := by
  unfold cellEq at h
  split at h
  · rename_i k0 hk hn
    split at h
    · rename_i k a k' b' hx hy
      split at h
      · rename_i hkk; have hkk := of_decide_eq_true hkk; subst hkk
        cases h
        refine ⟨⟨_, hk, rfl⟩, hn, fun d u v hu hv => ?_⟩
        rw [intOf_V hx hu, intOf_V hy hv]
        exact run_equalIn_int w d t _ _ _ _ (kd_int hk)
      · cases h
    · cases h
  · rename_i hk hn
    split at h
    · rename_i a b' hx hy
      cases h
      refine ⟨⟨_, hk, rfl⟩, hn, fun d u v hu hv => ?_⟩
      rw [boolOf_V hx hu, boolOf_V hy hv]
      exact run_equalIn_bool w d t _ _ (by
        unfold kd at hk
        split at hk <;> first | assumption | cases hk)
    · cases h
  · rename_i kf hk hn
    split at h
    · rename_i k a k' b'
      split at h
      · rename_i hkk; have hkk := of_decide_eq_true hkk; subst hkk
        cases h
        refine ⟨⟨_, hk, rfl⟩, hn, fun d u v hu hv => ?_⟩
        unfold V at hu hv
        obtain ⟨u', rfl, hu, _, _⟩ := hu
        obtain ⟨v', rfl, hv, _, _⟩ := hv
        exact ab_equalIn_float w d t hk hu hv
      · cases h
    · cases h
  · cases h

theorem itemsEq_run {e : TypeId} {us vs : List Value} (d : Nat) : ∀ (xs ys : List AVal) (b : Bool) (k : Nat), itemsEq P e xs ys = some b → VL ρ xs (us.drop k) → VL ρ ys (vs.drop k) →
    (Op.eqItems (d + 1) e 1 ⟨us⟩ ⟨vs⟩ (List.range' k xs.length)).run P w = .ok b w
  | [], [], b, k, h, hx, hy => by
    simp only [itemsEq, Option.some.injEq] at h
    subst h
    simp [Op.eqItems]
  | [], _ :: _, b, k, h, _, _ => by simp [itemsEq] at h
  | _ :: _, [], b, k, h, _, _ => by simp [itemsEq] at h
  | x :: xs, y :: ys, b, k, h, hx, hy => by
    unfold itemsEq at h
    split at h
    · rename_i a c ha hc
      cases h
      obtain ⟨⟨kk, hk1, hk2⟩, hn, hrun⟩ := cellEq_spec (P := P) w (ρ := ρ) ha
      unfold VL at hx hy
      obtain ⟨u, us', eu, hu, hus⟩ := hx
      obtain ⟨v, vs', ev, hv, hvs⟩ := hy
      have gu : us[k]? = some u := by
        have := congrArg (fun l => l[0]?) eu
        simpa using this
      have gv : vs[k]? = some v := by
        have := congrArg (fun l => l[0]?) ev
        simpa using this
      have du : us.drop (k + 1) = us' := by
        have := congrArg List.tail eu
        simpa [List.tail_drop] using this
      have dv : vs.drop (k + 1) = vs' := by
        have := congrArg List.tail ev
        simpa [List.tail_drop] using this
      have pu : (part e ⟨us⟩ (k * 1)).run P w = .ok u w := by
        unfold part
        have : (⟨us⟩ : Array Value)[k * 1]? = some u := by simpa using gu
        simp only [Sem.run_bind, run_isAgg w hk1, Result.andThen_ok, hk2, Bool.false_eq_true, if_false, this, Sem.run_pure]
      have pv : (part e ⟨vs⟩ (k * 1)).run P w = .ok v w := by
        unfold part
        have : (⟨vs⟩ : Array Value)[k * 1]? = some v := by simpa using gv
        simp only [Sem.run_bind, run_isAgg w hk1, Result.andThen_ok, hk2, Bool.false_eq_true, if_false, this, Sem.run_pure]
      have ih := itemsEq_run (us := us) (vs := vs) d xs ys c (k + 1) hc (by rw [du]; exact hus) (by rw [dv]; exact hvs)
      rw [List.length_cons, List.range'_succ]
      simp only [Op.eqItems, Sem.run_bind, pu, pv, Result.andThen_ok, hrun d u v hu hv]
      cases a with
      | true => simpa using ih
      | false => simp
    · cases h

theorem fieldsEq_run {us vs : List Value} (d : Nat) : ∀ (fs : List Field) (xs ys : List AVal) (b : Bool) (k : Nat), fieldsEq P k fs xs ys = some b → VL ρ xs (us.drop k) → VL ρ ys (vs.drop k) →
    (Op.eqFields (d + 1) ⟨us⟩ ⟨vs⟩ fs).run P w = .ok b w
  | [], xs, ys, b, k, h, hx, hy => by
    simp only [fieldsEq, Option.some.injEq] at h
    subst h
    simp [Op.eqFields]
  | f :: fs, [], ys, b, k, h, _, _ => by simp [fieldsEq] at h
  | f :: fs, _ :: _, [], b, k, h, _, _ => by simp [fieldsEq] at h
  | f :: fs, x :: xs, y :: ys, b, k, h, hx, hy => by
    unfold fieldsEq at h
    split at h
    · rename_i hf
      simp only [Bool.and_eq_true] at hf
      have hname := of_decide_eq_true hf.1
      have hoff := Nat.eq_of_beq_eq_true hf.2
      split at h
      · rename_i a c ha hc
        cases h
        obtain ⟨⟨kk, hk1, hk2⟩, hn, hrun⟩ := cellEq_spec (P := P) w (ρ := ρ) ha
        unfold VL at hx hy
        obtain ⟨u, us', eu, hu, hus⟩ := hx
        obtain ⟨v, vs', ev, hv, hvs⟩ := hy
        have gu : us[k]? = some u := by
          have := congrArg (fun l => l[0]?) eu
          simpa using this
        have gv : vs[k]? = some v := by
          have := congrArg (fun l => l[0]?) ev
          simpa using this
        have du : us.drop (k + 1) = us' := by
          have := congrArg List.tail eu
          simpa [List.tail_drop] using this
        have dv : vs.drop (k + 1) = vs' := by
          have := congrArg List.tail ev
          simpa [List.tail_drop] using this
        have pu : (part f.type ⟨us⟩ f.offset).run P w = .ok u w := by
          unfold part
          have : (⟨us⟩ : Array Value)[f.offset]? = some u := by rw [hoff]; simpa using gu
          simp only [Sem.run_bind, run_isAgg w hk1, Result.andThen_ok, hk2, Bool.false_eq_true, if_false, this, Sem.run_pure]
        have pv : (part f.type ⟨vs⟩ f.offset).run P w = .ok v w := by
          unfold part
          have : (⟨vs⟩ : Array Value)[f.offset]? = some v := by rw [hoff]; simpa using gv
          simp only [Sem.run_bind, run_isAgg w hk1, Result.andThen_ok, hk2, Bool.false_eq_true, if_false, this, Sem.run_pure]
        have ih := fieldsEq_run (us := us) (vs := vs) d fs xs ys c (k + 1) hc (by rw [du]; exact hus) (by rw [dv]; exact hvs)
        simp only [Op.eqFields, if_pos hname, Sem.run_bind, pu, pv, Result.andThen_ok, hrun d u v hu hv]
        cases a with
        | true => simpa using ih
        | false => simp
      · cases h
    · cases h

theorem aggEq_run {t : TypeId} {xs ys : List AVal} {b : Bool} {us vs : List Value} (h : aggEq P t xs ys = some b) (hx : VL ρ xs us) (hy : VL ρ ys vs) :
    (Op.equalIn 10000 t (.agg ⟨us⟩) (.agg ⟨vs⟩)).run P w = .ok b w ∧ P.eqGuardType P.depth t = false := by
  unfold aggEq at h
  split at h
  · rename_i n e hg hk
    split at h
    · cases h
    · rename_i x xs
      split at h
      · rename_i hn
        have hn := Nat.eq_of_beq_eq_true hn
        refine ⟨?_, hg⟩
        have hu := kd_arr hk
        have he : ∃ i, P.info? e = some i ∧ i.size = 1 := by
          cases ys with
          | nil => simp [itemsEq] at h
          | cons y ys =>
            unfold itemsEq at h
            split at h
            · rename_i a c ha hc
              obtain ⟨_, hn, _⟩ := cellEq_spec (P := P) w (ρ := ρ) ha
              unfold tsize at hn
              split at hn
              · rename_i i hi
                simp only [Option.some.injEq] at hn
                exact ⟨i, hi, hn⟩
              · cases hn
            · cases h
        obtain ⟨i, hi, hi1⟩ := he
        rw [run_equalIn_array w 9999 _ _ hu hi]
        have hc : P.cellsOf e = 1 := by simp [Program.cellsOf, hi, hi1]
        rw [hc, List.range_eq_range', ← hn]
        exact itemsEq_run w 9998 (x :: xs) ys b 0 h (by simpa using hx) (by simpa using hy)
      · cases h
  · rename_i fs hg hk
    split at h
    · rename_i hs
      refine ⟨?_, hg⟩
      have hu := kd_struct hk
      have hf : P.fieldsOf t = fs.toArray := by unfold Program.fieldsOf; rw [hu]
      rw [run_equalIn_struct w 9999 t _ _ (by rw [hf]; exact hu) hs, hf]
      exact fieldsEq_run w 9998 fs xs ys b 0 h (by simpa using hx) (by simpa using hy)
    · cases h
  · cases h

theorem evAgg_sound {t : TypeId} {op : BinOp} {x y z : AVal} {u v : Value} (h : evAgg P t op x y = some z) (hx : V ρ x u) (hy : V ρ y v) :
    ∃ r, (binOp op t u v).run P w = .ok r w ∧ V ρ z r ∧ ∀ (p q : Operand), (eqGuard op t p q u v).run P w = .ok () w := by
  unfold evAgg at h
  split at h
  all_goals first | (cases h; done) | skip
  all_goals
    split at h
    · rename_i b hb
      cases h
      unfold V at hx hy
      obtain ⟨us, rfl, hus⟩ := hx
      obtain ⟨vs, rfl, hvs⟩ := hy
      obtain ⟨h1, h2⟩ := aggEq_run w hb hus hvs
      first
        | (refine ⟨.bool b, ?_, by unfold V; rfl, fun p q => run_eqGuard_agg w _ t p q _ _ h2⟩
           rw [run_eql_struct, h1]; rfl)
        | (refine ⟨.bool (!b), ?_, by unfold V; rfl, fun p q => run_eqGuard_agg w _ t p q _ _ h2⟩
           rw [run_neq_struct, h1]; rfl)
    · cases h

theorem evNilc_sound {t : TypeId} {op : BinOp} {x y z : AVal} {c : Bool} {u v : Value} (h : evNilc P t op x y = some (c, z)) (hx : V ρ x u) (hy : V ρ y v) (hc : c = true) :
    ∃ r, (binOp op t u v).run P w = .ok r w ∧ V ρ z r ∧ ∀ (p q : Operand), eqGuard op t p q u v = Pure.pure () := by
  unfold evNilc at h
  split at h
  case h_2 => cases h
  rename_i i e a n v'
  unfold V at hx hy
  subst hy
  obtain ⟨_, _, bs, cc, rfl, h3⟩ := hx
  split at h
  case h_3 => cases h
  all_goals
    rename_i hk
    cases h
    have hn := Nat.le_of_ble_eq_true hc
    obtain ⟨ad, rfl⟩ : ∃ ad, bs = some ad := by
      rcases h3 with ⟨_, h4⟩ | ⟨r, b, _, h4⟩
      · omega
      · exact ⟨_, h4.1⟩
  · exact ⟨.bool false, Lib.run_eql_slice_nil w t _ _ _ _ _ _ (kd_slice hk), by unfold V; rfl, fun p q => rfl⟩
  · exact ⟨.bool true, run_neq_slice_nil w t _ _ _ _ (kd_slice hk), by unfold V; rfl, fun p q => rfl⟩
end
end Go.Ab

namespace Go.Ab
open Go Go.RowKit

section
variable {P : Program} {ρ : Rho}

theorem cellsO_sound {x : AVal} {v : Value} {cs : List AVal} (h : cellsO x = some cs) (hv : V ρ x v) : VL ρ cs v.cells.toList := by
  have h2 : cs = x.cells := by
    cases x <;> simp only [cellsO] at h <;> first | (cases h; done) | skip
    case raw u => split at h <;> cases h; rfl
    all_goals (cases h; rfl)
  subst h2
  refine V_cells hv ?_ ?_ ?_
  · rintro vs rfl; simp [cellsO] at h
  · rintro rfl; simp [cellsO] at h
  · rintro u rfl
    simp only [cellsO] at h
    split at h
    · assumption
    · cases h

theorem nthP_get : ∀ (l : List (Nat × Nat)) (i : Nat), nthP i l = l[i]?
  | [], i => by simp [nthP]
  | x :: l, 0 => rfl
  | x :: l, i + 1 => by simpa [nthP] using nthP_get l i

theorem plcs_mapM : ∀ (fs : List Field) (pl : List (Nat × Nat)), plcs P fs = some pl → fs.mapM (fun f => (P.info? f.type).map fun i => (f.offset, i.size)) = some pl
  | [], pl, h => by simp [plcs] at h; subst h; rfl
  | f :: fs, pl, h => by
    simp only [plcs] at h
    split at h
    · rename_i n hn
      split at h
      · rename_i l hl; cases h
        have ih := plcs_mapM fs l hl
        have hi : (P.info? f.type).map (fun i => (f.offset, i.size)) = some (f.offset, n) := by
          unfold tsize at hn
          split at hn
          · rename_i i hi; cases hn; simp [hi]
          · cases hn
        simp [List.mapM_cons, hi, ih]
      · cases h
    · cases h

theorem fillA_sound : ∀ (as : List AVal) (us : List Value) (xs : List AVal) (cells : Array Value) (off k : Nat), VL ρ as us → VL ρ xs cells.toList →
    VL ρ (fillA xs (off + k) as) ((us.zipIdx k).foldl (fun cs (p : Value × Nat) => cs.setIfInBounds (off + p.2) p.1) cells).toList
  | [], us, xs, cells, off, k, h, hx => by unfold VL at h; subst h; simpa [fillA] using hx
  | a :: as, us, xs, cells, off, k, h, hx => by
    unfold VL at h
    obtain ⟨u, us', rfl, h1, h2⟩ := h
    simp only [List.zipIdx_cons, List.foldl_cons, fillA]
    have := fillA_sound as us' (xs.set (off + k) a) (cells.setIfInBounds (off + k) u) off (k + 1) h2 (by
      rw [Array.toList_setIfInBounds]; exact VL_set _ _ _ _ _ hx h1)
    rw [Nat.add_assoc] 
    exact this

theorem fillG_sound {S : St} {a : Act} {pl : Nat → Option (Nat × Nat)} : ∀ (parts : List (Nat × Operand)) (xs : List AVal) (cells : Array Value) (out : List AVal),
    (∀ p ∈ parts, V ρ (opd S p.2) (a.eval p.2)) → VL ρ xs cells.toList → fillG pl S xs parts = some out →
    ∃ res, Instr.fill pl cells (parts.map fun p => (p.1, a.eval p.2)) = some res ∧ VL ρ out res.toList
  | [], xs, cells, out, _, hx, h => by simp [fillG] at h; subst h; exact ⟨cells, rfl, hx⟩
  | (j, x) :: r, xs, cells, out, hp, hx, h => by
    simp only [fillG] at h
    split at h
    · cases h
    · rename_i off sz hpl
      split at h
      · rename_i v hv
        split at h
        · rename_i hb
          simp only [Bool.and_eq_true] at hb
          have hb1 := Nat.eq_of_beq_eq_true hb.1
          have hb2 := Nat.le_of_ble_eq_true hb.2
          have hc := cellsO_sound hv (hp (j, x) (by simp))
          have hl : (a.eval x).cells.toList.length = v.length := VL_length _ _ hc
          have hlx := VL_length _ _ hx
          have hf := fillA_sound (ρ := ρ) v _ xs cells off 0 hc hx
          obtain ⟨res, h1, h2⟩ := fillG_sound r (fillA xs off v) _ out (fun p hp' => hp p (by simp [hp'])) (by simpa using hf) h
          refine ⟨res, ?_, h2⟩
          simp only [List.map_cons, Instr.fill, hpl]
          have hsz : ((a.eval x).cells.size ≠ sz) = False := by simp only [ne_eq, eq_iff_iff, iff_false, Decidable.not_not]; rw [← Array.length_toList]; omega
          have hgt : decide (off + (a.eval x).cells.size > cells.size) = false := by
            simp only [decide_eq_false_iff_not]; rw [← Array.length_toList, ← Array.length_toList]; omega
          simp only [hsz, hgt, decide_false, Bool.or_self, Bool.false_eq_true, if_false]
          rw [← h1]
          congr 1
          rw [← Array.foldl_toList, Array.toList_zipIdx]
        · cases h
      · cases h

theorem tzero_info {t : TypeId} {z : Value} (h : tzero P t = some z) : ∃ i, P.info? t = some i ∧ i.zero = some z := by
  unfold tzero at h
  split at h
  · rename_i i hi; exact ⟨i, hi, h⟩
  · cases h
theorem tsize_info {t : TypeId} {n : Nat} (h : tsize P t = some n) : ∃ i, P.info? t = some i ∧ i.size = n := by
  unfold tsize at h
  split at h
  · rename_i i hi; cases h; exact ⟨i, hi, rfl⟩
  · cases h

/-! calls -/
/-- What a function without a body does. -/
def extFn : Xk → Array Value → Sem Value
  | .f32bits => Extern.MathFloatBits.float32bits
  | .f64bits => Extern.MathFloatBits.float64bits
  | .f32from => Extern.MathFloatBits.float32frombits
  | .f64from => Extern.MathFloatBits.float64frombits
  | .sqrt => Extern.MathSqrt.sqrt
  | .intg n t => Extern.MathFloor.toIntegral n t

/-- What a call leaves. -/
def Res (M : Addr → Prop) (w0 : World) (ρ : Rho) (S : St) (out : Out) : Ending → World → Prop
  | .returned u, w' => (∀ b v, out.pn = some (b, v) → b = false) ∧ ∃ ρ', ExtS S.hp.length ρ ρ' ∧ V ρ' out.v u ∧ Mem M w0 ρ' (S.put out.hv out.vv out.nw) w'
  | .panicked ch, w' => ∃ v u, out.pn = some (true, v) ∧ ch = [{ v := u, recovered := false }] ∧ V ρ v u ∧ Mem M w0 ρ S w'
  | .outgrown, _ => False

/-- The contract of a function with a body holds. -/
structure SatC (P : Program) (f : FuncId) (c : Ctr) : Prop where
  call : ∀ (args : Array Value) (w : World), (callFunc f args).run P w = .ok (.enter f args) w
  sat : ∀ args S out, c.fn args S = some out → out.nd = true → ∀ M w0 ρ w vs, Mem M w0 ρ S w → VL ρ args vs → Calls P f ⟨vs⟩ w (Res M w0 ρ S out)

/-- The contract holds. -/
def Sat (P : Program) (f : FuncId) (c : Ctr) : Prop :=
  match c.x with
  | none => SatC P f c
  | some k => ∀ (args : Array Value) (w : World), (callFunc f args).run P w = ((extFn k args).run P w).andThen fun v w' => .ok (.value v) w'

theorem flatL_get : ∀ (cs : List AVal) (o : Nat) (x : AVal), AVal.flat.flatL cs = true → cs[o]? = some x → x.flat = true
  | [], o, x, _, h => by simp at h
  | c :: cs, o, x, hf, h => by
    unfold AVal.flat.flatL at hf
    split at hf
    · rename_i hc
      cases o with
      | zero => simp at h; subst h; exact hc
      | succ o => exact flatL_get cs o x hf (by simpa using h)
    · cases hf

theorem VL_get {ρ : Rho} : ∀ (xs : List AVal) (vs : List Value), VL ρ xs vs → ∀ (i : Nat) (x : AVal), xs[i]? = some x → ∃ v, vs[i]? = some v ∧ V ρ x v
  | [], _, _, i, x, hi => by simp at hi
  | y :: xs, _, k, i, x, hi => by
    unfold VL at k
    obtain ⟨v, vs', rfl, h2, h3⟩ := k
    cases i with
    | zero => simp at hi; subst hi; exact ⟨v, rfl, h2⟩
    | succ i =>
      obtain ⟨u, hu, hv⟩ := VL_get xs vs' h3 i x (by simpa using hi)
      exact ⟨u, by simpa using hu, hv⟩

theorem cellsAt_len {S : St} : ∀ (n i o : Nat) (cs : List AVal), S.cellsAt i o n = some cs → cs.length = n ∧ ∀ k x, cs[k]? = some x → S.cell i (o + k) = some x
  | 0, i, o, cs, h => by simp [St.cellsAt] at h; subst h; exact ⟨rfl, fun k x h => by simp at h⟩
  | n + 1, i, o, cs, h => by
    simp only [St.cellsAt] at h
    split at h
    · rename_i x hx
      split at h
      · rename_i cs' hcs; cases h
        obtain ⟨h1, h2⟩ := cellsAt_len n i (o + 1) cs' hcs
        refine ⟨by simp [h1], fun k y hk => ?_⟩
        cases k with
        | zero => simp at hk; subst hk; simpa using hx
        | succ k =>
          have := h2 k y (by simpa using hk)
          have e : o + (k + 1) = o + 1 + k := by omega
          rw [e]; exact this
      · cases h
    · cases h

/-! rows -/
theorem nthC_lt : ∀ {l : List CK} {o : Nat} {c : CK}, nthC o l = some c → o < lenL l
  | [], o, c, h => by simp [nthC] at h
  | d :: r, 0, c, h => by simp [lenL]
  | d :: r, o + 1, c, h => by
    have := nthC_lt (l := r) (o := o) (c := c) (by simpa [nthC] using h)
    simp only [lenL]; omega

theorem lenL_eq {α : Type} : ∀ l : List α, lenL l = l.length
  | [] => rfl
  | _ :: r => by simp [lenL, lenL_eq r]

/-- A cell of a kind, off a value. -/
def mkW : CK → AVal → AVal
  | .f32, x => .flt .f32 (wF x)
  | .int t, x => .sint t (wG x)
  | .bool, x => .sbool (wB x)

theorem fits_V {ρ : Rho} {c : CK} {x : AVal} {u : Value} (h : fits c x = true) (hv : V ρ x u) : V ρ (mkW c x) u := by
  unfold fits at h
  split at h
  · exact hv
  · have := of_decide_eq_true h; subst this; unfold V at hv ⊢; exact hv
  · have := of_decide_eq_true h; subst this; unfold V at hv ⊢; exact hv
  · have := of_decide_eq_true h; subst this; unfold V at hv ⊢; exact hv.1
  · unfold V at hv ⊢; exact hv
  · exact hv
  · cases h

theorem fits_one {c : CK} {x : AVal} (h : fits c x = true) : x.oneA = true := by
  unfold fits at h
  split at h <;> first | rfl | cases h

theorem fitsL_spec (sh : List CK) : ∀ (cs : List AVal) (o : Nat), fitsL sh o cs = true → ∀ p, p < cs.length → ∃ c, nthC (o + p) sh = some c ∧ fits c (nth p cs) = true
  | [], o, _, p, hp => by simp at hp
  | v :: r, o, h, p, hp => by
    unfold fitsL at h
    split at h
    · rename_i c hc
      split at h
      · rename_i hf
        cases p with
        | zero => exact ⟨c, by simpa using hc, hf⟩
        | succ p =>
          obtain ⟨d, h1, h2⟩ := fitsL_spec sh r (o + 1) h p (by simpa using hp)
          exact ⟨d, by rw [← h1]; congr 1; omega, h2⟩
      · cases h
    · cases h

theorem fitsL_allOne (sh : List CK) : ∀ (cs : List AVal) (o : Nat), fitsL sh o cs = true → allOne cs = true
  | [], o, _ => rfl
  | v :: r, o, h => by
    unfold fitsL at h
    split at h
    · split at h
      · rename_i hf
        unfold allOne
        rw [fits_one hf]
        exact fitsL_allOne sh r (o + 1) h
      · cases h
    · cases h

theorem inSeg_true {k o l j q : Nat} : inSeg k o l j q = true ↔ j = k ∧ o ≤ q ∧ q < o + l := by
  unfold inSeg
  simp only [Bool.and_eq_true]
  constructor
  · rintro ⟨h1, h2, h3⟩
    exact ⟨Nat.eq_of_beq_eq_true h1, Nat.le_of_ble_eq_true h2, Nat.le_of_ble_eq_true h3⟩
  · rintro ⟨rfl, h2, h3⟩
    exact ⟨Nat.beq_refl _, Nat.ble_eq_true_of_le h2, Nat.ble_eq_true_of_le h3⟩

theorem put_mkA (v : Vc) (k o : Nat) (cs : List AVal) (j q : Nat) (c : CK) : (v.put k o cs).mkA j q c = if inSeg k o (lenL cs) j q = true then mkW c (nth (q - o) cs) else v.mkA j q c := by
  cases h : inSeg k o (lenL cs) j q <;> cases c <;> simp [Vc.mkA, Vc.put, mkW, h]

section
variable {M : Addr → Prop} {w0 w : World} {S : St}

theorem put_vv_vec (S : St) (i : Nat) (u : Vc) (j : Nat) : (S.put [] [(i, u)] []).vec j = match S.vec j with | none => none | some x => if j = i then some u else some x := by
  unfold St.vec
  have hb : (S.put [] [(i, u)] []).blk j = S.blk j := by simp [St.put, St.ext, St.blk]
  rw [hb]
  split
  · rename_i v h1 h2
    simp only [St.put, St.ext, vlookL, vlook1]
    cases hji : Nat.beq j i with
    | true =>
      have := Nat.eq_of_beq_eq_true hji
      subst this
      simp only [if_true]
      cases vlookL j S.vvs <;> rfl
    | false =>
      have hne : j ≠ i := fun e => by subst e; simp at hji
      simp only [hne, if_false]
      cases vlookL j S.vvs <;> rfl
  · rfl

theorem mul_lt_seg {k e o n : Nat} (hk : k < n) (ho : o < e) : k * e + o < n * e := by
  have : (k + 1) * e ≤ n * e := Nat.mul_le_mul_right _ hk
  rw [Nat.add_mul] at this; omega

theorem seg_inj {k k' e o o' : Nat} (ho : o < e) (ho' : o' < e) (h : k * e + o = k' * e + o') : k = k' ∧ o = o' := by
  rcases Nat.lt_trichotomy k k' with hlt | heq | hlt
  · have := mul_lt_seg hlt ho; omega
  · subst heq; exact ⟨rfl, by omega⟩
  · have := mul_lt_seg hlt ho'; omega

/-- A store into an element. -/
theorem Mem.vstore {P : Program} (h : Mem M w0 ρ S w) {i r b k o : Nat} {vc : Vc} {xs : List AVal} {vs : List Value} (hvc : S.vec i = some vc) (hw : vc.wr = true) (hr : ρ i = some (r, b)) (hk : k < vc.n.val)
    (hf : fitsL vc.sh o xs = true) (hv : VL ρ xs vs) : ∃ w', (storeCells ⟨r, b + (k * lenL vc.sh + o), none⟩ vs).run P w = .ok () w' ∧ Mem M w0 ρ (S.put [] [(i, vc.put k o xs)] []) w' := by
  have hl := VL_length xs vs hv
  have hfs := fitsL_spec vc.sh xs o hf
  have hcap := h.hp.vcap i vc r b hvc hw hr
  have hoff : ∀ j, j < vs.length → k * lenL vc.sh + o + j < ρ.cap i * lenL vc.sh := fun j hj => by
    obtain ⟨c, hc, _⟩ := hfs j (by omega)
    have h1 := nthC_lt hc
    have := mul_lt_seg (Nat.lt_of_lt_of_le hk hcap) h1
    omega
  have hwB : S.wrB i = true := wrB_iff.2 (Or.inr ⟨vc, hvc, hw⟩)
  obtain ⟨w', hrun, e1, e2, e3, e4, e5, e6, e7, e8⟩ := run_storeCells (P := P) r (b + (k * lenL vc.sh + o)) vs 0 w (VL_mem xs vs hv (fitsL_allOne _ _ _ hf))
    (fun j hj => by
      obtain ⟨⟨v, h1⟩, _⟩ := h.hp.vfrz i vc r b _ hvc hw hr (hoff j hj)
      exact ⟨v, by rw [← h1]; congr 1; simp only [Addr.mk.injEq, true_and, and_true]; omega⟩)
    (fun j hj => by
      obtain ⟨_, h1⟩ := h.hp.vfrz i vc r b _ hvc hw hr (hoff j hj)
      rw [← h1]; congr 1; simp only [Addr.mk.injEq, true_and, and_true]; omega)
  simp only [Nat.add_zero] at e7 e8
  have hcl : ∀ i' o', (S.put [] [(i, vc.put k o xs)] []).cell i' o' = S.cell i' o' := fun i' o' => by simp [St.put, St.ext, St.cell, St.blk, hlookL, hlook1]
  have hother : ∀ (i' r' b' q : Nat), i' ≠ i → ρ i' = some (r', b') → S.live i' = true → w'.cell? ⟨r', b' + q, none⟩ = w.cell? ⟨r', b' + q, none⟩ := fun i' r' b' q hne hr' hlv =>
    e8 _ (fun j hj e => by
      simp only [Addr.mk.injEq, and_true] at e
      exact h.hp.dis i i' r b b' (Ne.symm hne) hwB hr (by rw [hr', e.1]) hlv)
  refine ⟨w', hrun, h.step (M' := fun a => ∃ j, j < vs.length ∧ a = ⟨r, b + (k * lenL vc.sh + o) + j, none⟩) ⟨e1, e2, e3, by omega, ?_, ?_, fun a _ => e5 a⟩ ?_ ?_ ?_ ?_ ?_ ?_ ?_ (fun k => by simp [St.put, St.ext, St.blk]) (by simp [St.put, St.ext]) ?_ ?_⟩
  · intro q hq hn
    by_cases hqr : q = r
    · subst hqr
      cases vs with
      | nil =>
        simp [storeCells] at hrun
        rw [← hrun]
      | cons v vs => exact absurd ⟨0, by simp, rfl⟩ (hn (b + (k * lenL vc.sh + o)))
    · exact e6 q hqr
  · intro a ha hn
    exact e8 a (fun j hj e => hn ⟨j, hj, e⟩)
  · rintro a ⟨j, hj, rfl⟩
    exact Or.inr ⟨i, vc, r, b, k * lenL vc.sh + o + j, hvc, hw, hr, hoff j hj, by rw [Nat.add_assoc]⟩
  · intro i' o' x hx
    rw [hcl] at hx
    obtain ⟨r', b', v, k1, k2, k3⟩ := h.hp.cell i' o' x hx
    have hne : i' ≠ i := fun e => by
      subst e
      have h1 := vec_cells hvc
      have h2 := cell_off hx
      rw [h1] at h2; simp at h2
    exact ⟨r', b', v, k1, by rw [hother i' r' b' o' hne k1 (live_cell hx)]; exact k2, k3⟩
  · intro i' o' x hx
    rw [hcl] at hx; exact ⟨x, hx⟩
  · intro i' vc' r' b' q p c hx hr' hq hc
    rw [put_vv_vec] at hx
    cases hy : S.vec i' with
    | none => rw [hy] at hx; cases hx
    | some y =>
      rw [hy] at hx
      simp only at hx
      split at hx
      · rename_i hii
        subst hii
        cases hx
        rw [hr] at hr'; cases hr'
        have hc' : nthC p vc.sh = some c := hc
        have hq' : q < vc.n.val := hq
        rw [hvc] at hy; cases hy
        show ∃ v, w'.cell? ⟨r, b + (q * lenL vc.sh + p), none⟩ = some v ∧ V ρ ((vc.put k o xs).mkA q p c) v
        rw [put_mkA]
        by_cases hs : inSeg k o (lenL xs) q p = true
        · rw [if_pos hs]
          obtain ⟨rfl, h1, h2⟩ := inSeg_true.1 hs
          rw [lenL_eq] at h2
          obtain ⟨u, hu, hvu⟩ := VL_nth xs vs hv (p - o) (by omega)
          obtain ⟨c', hc1, hc2⟩ := hfs (p - o) (by omega)
          have ep : o + (p - o) = p := by omega
          rw [ep, hc'] at hc1; cases hc1
          refine ⟨u, ?_, fits_V hc2 hvu⟩
          have := e7 (p - o) u hu
          rw [← this]; congr 1; simp only [Addr.mk.injEq, true_and, and_true]; omega
        · rw [if_neg hs]
          obtain ⟨v, k2, k3⟩ := h.hp.vcell i' vc r b q p c hvc hr hq' hc'
          refine ⟨v, ?_, k3⟩
          rw [e8 _ (fun j hj e => ?_)]
          · exact k2
          · simp only [Addr.mk.injEq, true_and, and_true] at e
            obtain ⟨c', hc1, _⟩ := hfs j (by omega)
            have h1 := nthC_lt hc1
            have h2 := nthC_lt hc'
            obtain ⟨rfl, rfl⟩ := seg_inj (k := q) (k' := k) (o := p) (o' := o + j) h2 h1 (by omega)
            exact hs (inSeg_true.2 ⟨rfl, by omega, by rw [lenL_eq]; omega⟩)
      · rename_i hii
        cases hx
        obtain ⟨v, k2, k3⟩ := h.hp.vcell i' vc' r' b' q p c hy hr' hq hc
        exact ⟨v, by rw [hother i' r' b' _ hii hr' (live_vec hy hc)]; exact k2, k3⟩
  · intro i' vc' hx
    rw [put_vv_vec] at hx
    cases hy : S.vec i' with
    | none => rw [hy] at hx; cases hx
    | some y =>
      rw [hy] at hx
      simp only at hx
      split at hx
      · rename_i hii; subst hii; cases hx
        rw [hvc] at hy; cases hy
        exact ⟨vc, rfl, rfl, fun h => ⟨h, Nat.le_refl _⟩⟩
      · cases hx; exact ⟨vc', rfl, rfl, fun h => ⟨h, Nat.le_refl _⟩⟩
  · intro j hj
    rcases live_iff.1 hj with ⟨x, hx⟩ | ⟨v, c, sh, hx, hs⟩
    · rw [hcl] at hx; exact live_cell hx
    · rw [put_vv_vec] at hx
      cases hy : S.vec j with
      | none => rw [hy] at hx; cases hx
      | some y =>
        rw [hy] at hx
        simp only at hx
        split at hx
        · rename_i hii; subst hii; cases hx
          rw [hvc] at hy; cases hy
          exact live_iff.2 (Or.inr ⟨vc, c, sh, hvc, hs⟩)
        · cases hx
          exact live_iff.2 (Or.inr ⟨v, c, sh, hy, hs⟩)
  · intro i' vc' r' b' q v hx _ hr' hv0
    by_cases hq : ∃ j, j < vs.length ∧ (⟨r', b' + q, none⟩ : Addr) = ⟨r, b + (k * lenL vc.sh + o) + j, none⟩
    · obtain ⟨j, hj, e⟩ := hq
      rw [e]
      exact ⟨vs[j], e7 j vs[j] (List.getElem?_eq_getElem hj)⟩
    · exact ⟨v, by rw [e8 _ (fun j hj e => hq ⟨j, hj, e⟩)]; exact hv0⟩
  · intro i' o' x hx
    have := h.hp.ink i' o' x (by simpa [St.put, St.ext, hlookL, hlook1] using hx)
    simpa [St.put, St.ext] using this
  · intro i' x hx
    simp only [St.put, St.ext, vlookL, vlook1, List.append_nil] at hx ⊢
    cases hb : Nat.beq i' i with
    | true =>
      have := Nat.eq_of_beq_eq_true hb
      subst this
      exact h.hp.dom _ _ hr
    | false =>
      rw [hb] at hx
      exact h.hp.vink i' x hx
end
end
end Go.Ab

namespace Go.Ab
open Go Go.RowKit
set_option linter.unusedVariables false

section
variable {P : Program} {ρ : Rho} {o : Oper} {a : Act} {S : St} {M : Addr → Prop} {w0 w : World}

theorem argsOf_VL : ∀ (xs : List Operand), (∀ x ∈ xs, V ρ (opd S x) (a.eval x)) → VL ρ (argsOf S xs) (xs.map a.eval)
  | [], _ => by simp [argsOf, VL]
  | x :: xs, h => by
    simp only [argsOf, List.map_cons]
    unfold VL
    exact ⟨_, _, rfl, h x (by simp), argsOf_VL xs (fun y hy => h y (by simp [hy]))⟩

theorem nth_get : ∀ (l : List AVal) (i : Nat) (_h : i < l.length), l[i]? = some (nth i l)
  | [], _, h => by simp at h
  | x :: l, 0, _ => rfl
  | x :: l, i + 1, h => by simpa [nth] using nth_get l i (by simpa using h)

theorem evExt_sound {k : Xk} {args : List AVal} {z : AVal} {vs : List Value} (w : World) (h : evExt k args = some (true, z)) (hv : VL ρ args vs) : ∃ u w', (extFn k ⟨vs⟩).run P w = .ok u w' ∧ V ρ z u ∧ Drawn w w' := by
  unfold evExt at h
  split at h
  all_goals first | (cases h; done) | skip
  case' h_3 | h_4 =>
    split at h
    case h_2 => cases h
    rename_i hlt
    have hlt := Nat.le_of_ble_eq_true hlt
  case' h_5 | h_6 | h_7 | h_8 =>
    unfold wordOf at h
    simp only [Option.some.injEq, Prod.mk.injEq, Bool.and_eq_true] at h
    obtain ⟨⟨hc, hlt⟩, hz⟩ := h
    have hlt := Nat.le_of_ble_eq_true hlt
    subst hz
  case' h_1 | h_2 | h_3 | h_4 | h_9 | h_10 =>
    cases h
  all_goals
    unfold VL at hv
    obtain ⟨v, vs', rfl, hv1, hv⟩ := hv
    unfold VL at hv
    subst hv
    unfold V at hv1
  case h_1 b | h_2 b =>
    obtain ⟨b', rfl, hb, _, _⟩ := hv1
    refine ⟨_, w, rfl, ?_, Or.inl rfl⟩
    unfold V
    refine ⟨_, rfl, fun hn => ?_⟩
    rcases hb with rfl | ⟨h1, _⟩
    · rfl
    · rw [nanB_eq, h1] at hn; cases hn
  case h_9 b =>
    obtain ⟨b', rfl, hb, _, _⟩ := hv1
    obtain ⟨r, w', h1, h2, h3, h4⟩ := run_sqrt (P := P) w hb
    refine ⟨_, w', h1, ?_, h4⟩
    unfold V
    exact ⟨r, rfl, h2, sqrtW_wf _, h3⟩
  case h_10 n t b =>
    obtain ⟨b', rfl, hb, _, hw⟩ := hv1
    obtain ⟨r, w', h1, h2, h3, h4⟩ := run_intg (P := P) w n t hb hw
    refine ⟨_, w', h1, ?_, h4⟩
    unfold V
    exact ⟨r, rfl, h2, intgW_wf _ _, h3⟩
  case h_5 | h_7 =>
    obtain ⟨m, rfl, hm⟩ := hv1
    have hm := hm hc
    subst hm
    refine ⟨_, w, rfl, ?_, Or.inl rfl⟩
    unfold V
    exact ⟨_, rfl, Or.inl rfl, hlt, hlt⟩
  all_goals
    subst hv1
    refine ⟨_, w, rfl, ?_, Or.inl rfl⟩
    unfold V
    exact ⟨_, rfl, Or.inl rfl, hlt, hlt⟩

/-- A call, by its contract. -/
theorem evCall_sound {Γ : List (Nat × Ctr)} (hΓ : ∀ f c, lookC f Γ = some c → Sat P f c) {f : FuncId} {args : List AVal} {vs : List Value} {out : Out} (he : evCall Γ S f args = some out) (hM : Mem M w0 ρ S w)
    (hvs : VL ρ args vs) (hrun : (execOp a.eval o).run P w = (callFunc f ⟨vs⟩).run P w) : OpOk P o a S w M w0 ρ out := by
  unfold evCall at he
  split at he
  case h_2 => cases he
  rename_i ctr hctr
  have hsat0 := hΓ f ctr hctr
  split at he
  · rename_i k hk
    split at he
    · rename_i c v hv; cases he
      cases c with
      | false => intro hnd; cases hnd
      | true =>
        unfold Sat at hsat0
        rw [hk] at hsat0
        simp only at hsat0
        obtain ⟨u, w', h1, h2, h3⟩ := evExt_sound (P := P) w hv hvs
        refine OpOk.pure (u := u) w hM h3 ?_ h2
        rw [hrun, hsat0, h1]; rfl
    · cases he
  · rename_i hx
    have hsat : SatC P f ctr := by
      unfold Sat at hsat0
      rw [hx] at hsat0
      exact hsat0
    intro hnd next Q hn hq
    unfold Oper.wp
    rw [hrun, hsat.call, Oper.upon_enter]
    refine (hsat.sat args S out he hnd M w0 ρ w vs hM hvs).mono ?_
    intro e w' hres
    cases e with
    | returned u =>
      obtain ⟨h1, ρ', h2, h3, h4⟩ := hres
      exact hn u w' ρ' h2 h1 h3 h4
    | panicked ch =>
      obtain ⟨v, u, h1, rfl, h2, h3⟩ := hres
      exact hq v u w' h1 h2 h3
    | outgrown => exact hres.elim

theorem run_call_val {c : Call} {f : Operand} {g : FuncId} {us cs : List Value} (hop : o.op = .call c) (hc : c.callee = .value f) (hf : a.eval f = .func (.func g) ⟨us⟩ ⟨cs⟩) :
    (execOp a.eval o).run P w = (callFunc g ⟨us ++ c.args.toList.map a.eval ++ cs⟩).run P w := by
  unfold execOp
  rw [hop]
  simp only [resolve, hc, hf, Deferred.ofValue, Sem.run_bind, Sem.run_pure, Result.andThen_ok, invoke]
  congr 2
  apply Array.ext'
  simp

/-! new rows -/
/-- A block of which nothing is said yet. -/
theorem Mem.ghost (h : Mem M w0 ρ S w) (vv : List (Nat × Vc)) (u : Vc) (hvv : ∀ i u, vlook1 i vv = some u → u = Vc.none [] ∧ i < S.hp.length) : Mem M w0 ρ (S.put [] vv [⟨[], false, some u⟩]) w := by
  have hlen : (S.put [] vv [⟨[], false, some u⟩]).hp.length = S.hp.length + 1 := by simp [St.put, St.ext]
  have hhv : ∀ i o, hlookL i o (S.put [] vv [⟨[], false, some u⟩]).hvs = hlookL i o S.hvs := fun i o => by simp [St.put, St.ext, hlookL, hlook1]
  have hvvs : ∀ i, vlookL i (S.put [] vv [⟨[], false, some u⟩]).vvs = match vlook1 i vv with | some u => some u | none => vlookL i S.vvs := fun i => by first | (simp only [St.put, St.ext, vlookL]; done) | (simp only [St.put, St.ext, vlookL]; cases vlook1 i vv <;> rfl)
  have hcell : ∀ i o x, (S.put [] vv [⟨[], false, some u⟩]).cell i o = some x → i < S.hp.length ∧ S.cell i o = some x := fun i o x hx => by
    have hi := cell_lt hx
    have ho := cell_off hx
    rw [hlen] at hi
    rcases Nat.lt_or_ge i S.hp.length with hlt | hge
    · refine ⟨hlt, ?_⟩
      unfold St.cell at hx ⊢
      rw [put_blk_old _ _ _ _ hlt, hhv] at hx; exact hx
    · have : i = S.hp.length := by omega
      subst this
      rw [put_blk_new] at ho; simp at ho
  have hvec : ∀ i x, i < S.hp.length → (S.put [] vv [⟨[], false, some u⟩]).vec i = some x → x = Vc.none [] ∨ S.vec i = some x := fun i x hi hx => by
    unfold St.vec at hx ⊢
    rw [put_blk_old _ _ _ _ hi, hvvs] at hx
    split at hx
    · rename_i v hcs hvc
      cases hl : vlook1 i vv with
      | some y =>
        rw [hl] at hx
        simp only [Option.some.injEq] at hx
        subst hx
        exact Or.inl (hvv i _ hl).1
      | none =>
        rw [hl] at hx
        exact Or.inr hx
    · cases hx
  refine ⟨⟨?_, ?_, ?_, ?_, ?_, ?_, ?_, ?_, ?_, ?_, h.hp.lt⟩, h.fr, ⟨?_, ?_⟩⟩
  · intro i o x hx; exact h.hp.cell i o x (hcell i o x hx).2
  · intro i vc r b k o c hx hr hk hc
    rcases hvec i vc (h.hp.dom _ _ hr) hx with rfl | hx
    · simp [Vc.none, nthC] at hc
    · exact h.hp.vcell i vc r b k o c hx hr hk hc
  · intro i o x r b hx hw hr
    obtain ⟨h1, h2⟩ := hcell i o x hx
    rw [put_blk_old _ _ _ _ h1] at hw
    exact h.hp.frz i o x r b h2 hw hr
  · intro i vc r b q hx hw hr hq
    rcases hvec i vc (h.hp.dom _ _ hr) hx with rfl | hx
    · simp [Vc.none] at hw
    · exact h.hp.vfrz i vc r b q hx hw hr hq
  · intro i vc r b hx hw hr
    rcases hvec i vc (h.hp.dom _ _ hr) hx with rfl | hx
    · simp [Vc.none] at hw
    · exact h.hp.vcap i vc r b hx hw hr
  · intro i j r b b' hij hw hr hr' hlv
    have hi := h.hp.dom _ _ hr
    have hj := h.hp.dom _ _ hr'
    refine h.hp.dis i j r b b' hij ?_ hr hr' ?_
    · rcases wrB_iff.1 hw with ⟨o, x, hx, hw⟩ | ⟨v, hv, hw⟩
      · rw [put_blk_old _ _ _ _ hi] at hw
        exact wrB_iff.2 (Or.inl ⟨o, x, (hcell i o x hx).2, hw⟩)
      · rcases hvec i v hi hv with rfl | hx
        · simp [Vc.none] at hw
        · exact wrB_iff.2 (Or.inr ⟨v, hx, hw⟩)
    · rcases live_iff.1 hlv with ⟨x, hx⟩ | ⟨v, c, sh, hx, hs⟩
      · exact live_cell (hcell j 0 x hx).2
      · rcases hvec j v hj hx with rfl | hx
        · simp [Vc.none] at hs
        · exact live_iff.2 (Or.inr ⟨v, c, sh, hx, hs⟩)
  · intro i p hp; rw [hlen]; have := h.hp.dom i p hp; omega
  · intro i hk; rw [hlen]; have := h.hp.kdm i hk; omega
  · intro i o x hx; rw [hhv] at hx; rw [hlen]; have := h.hp.ink i o x hx; omega
  · intro i x hx
    rw [hvvs] at hx
    rw [hlen]
    cases hl : vlook1 i vv with
    | some y => have := (hvv i y hl).2; omega
    | none => rw [hl] at hx; have := h.hp.vink i x hx; omega
  · intro i o x r b hx hw hr
    obtain ⟨h1, h2⟩ := hcell i o x hx
    rw [put_blk_old _ _ _ _ h1] at hw
    exact h.own.cell i o x r b h2 hw hr
  · intro i vc r b q hx hw hr hq
    rcases hvec i vc (h.hp.dom _ _ hr) hx with rfl | hx
    · simp [Vc.none] at hw
    · exact h.own.vec i vc r b q hx hw hr hq

/-- A block that is known of, and lies nowhere. -/
def updK (ρ : Rho) (n : Nat) : Rho := ⟨ρ.p, ρ.cap, fun i => if i = n then true else ρ.kn i⟩
theorem updK_ext (ρ : Rho) (n : Nat) : Ext ρ (updK ρ n) := ⟨fun i p h => ⟨h, rfl⟩, fun i h => by simp only [updK]; split <;> first | rfl | exact h⟩
theorem updK_kn (ρ : Rho) (n : Nat) : (updK ρ n).kn n = true := by simp [updK]

theorem Mem.known (h : Mem M w0 ρ S w) {n : Nat} (hn : n < S.hp.length) : Mem M w0 (updK ρ n) S w := by
  have hx := updK_ext ρ n
  refine ⟨⟨fun i o x hx' => ?_, fun i vc r b k o c hv hr hk hc => ?_, h.hp.frz, h.hp.vfrz, h.hp.vcap, h.hp.dis, h.hp.dom, fun i hk => ?_, h.hp.ink, h.hp.vink, h.hp.lt⟩, h.fr, ⟨h.own.cell, h.own.vec⟩⟩
  · obtain ⟨r, b, v, k1, k2, k3⟩ := h.hp.cell i o x hx'
    exact ⟨r, b, v, k1, k2, V_ext hx _ _ k3⟩
  · obtain ⟨v, k1, k2⟩ := h.hp.vcell i vc r b k o c hv hr hk hc
    exact ⟨v, k1, V_ext hx _ _ k2⟩
  · simp only [updK] at hk
    split at hk
    · rename_i e; subst e; exact hn
    · exact h.hp.kdm i hk

theorem elemOf_spec {e : TypeId} {sh : List CK} {z0 : List AVal} (h : elemOf P e = some (sh, z0)) :
    ∃ i z, P.info? e = some i ∧ i.zero = some z ∧ i.size = lenL sh ∧ 1 ≤ lenL sh ∧ shOf z0 = some sh ∧ z0 = absC z.cells.toList := by
  unfold elemOf at h
  split at h
  · rename_i z n hz hn
    split at h
    · rename_i sh' hsh
      split at h
      · rename_i hb
        simp only [Option.some.injEq, Prod.mk.injEq] at h
        obtain ⟨rfl, rfl⟩ := h
        simp only [Bool.and_eq_true] at hb
        obtain ⟨i, hi, hiz⟩ := tzero_info hz
        obtain ⟨i', hi', his⟩ := tsize_info hn
        rw [hi] at hi'; cases hi'
        have h1 := Nat.eq_of_beq_eq_true hb.1
        have h2 := Nat.le_of_ble_eq_true hb.2
        exact ⟨i, z, hi, hiz, by omega, by omega, hsh, rfl⟩
      · cases h
    · cases h
  · cases h

theorem shOf_spec : ∀ (l : List AVal) (sh : List CK), shOf l = some sh → lenL sh = l.length ∧ ∀ p c, nthC p sh = some c → fits c (nth p l) = true
  | [], sh, h => by simp [shOf] at h; subst h; exact ⟨rfl, fun p c hc => by simp [nthC] at hc⟩
  | v :: r, sh, h => by
    unfold shOf at h
    split at h
    · rename_i c l hc hl
      cases h
      obtain ⟨h1, h2⟩ := shOf_spec r l hl
      refine ⟨by simp [lenL, h1], fun p d hd => ?_⟩
      cases p with
      | zero =>
        simp [nthC] at hd; subst hd
        show fits c v = true
        unfold ckOf at hc
        split at hc <;> cases hc <;> simp [fits]
      | succ p => exact h2 p d (by simpa [nthC] using hd)
    · cases h

theorem mod_seg (k e o : Nat) (ho : o < e) : (k * e + o) % e = o := by
  rw [Nat.mul_comm, Nat.mul_add_mod]; exact Nat.mod_eq_of_lt ho

theorem tbytes_spec {e : TypeId} {b : Nat} {i : TypeInfo} (h : tbytes P e = some b) (hi : P.info? e = some i) : i.bytes = b := by
  unfold tbytes at h
  rw [hi] at h
  simpa using h

theorem numOf_spec {x : AVal} {n : Num} {c : Bool} {v : Value} (h : numOf x = some (n, c)) (hc : c = true) (hv : V ρ x v) : v = .int .i64 (n.val : Int) ∧ n.ok := by
  unfold numOf at h
  split at h
  · rename_i z
    split at h
    · rename_i m hm
      simp only [Option.some.injEq, Prod.mk.injEq] at h
      obtain ⟨rfl, rfl⟩ := h
      unfold V at hv
      subst hv
      cases z with
      | ofNat z => simp [natOf] at hm; subst hm; exact ⟨rfl, trivial⟩
      | negSucc z => simp [natOf] at hm
    · cases h
  · simp only [Option.some.injEq, Prod.mk.injEq] at h
    obtain ⟨rfl, rfl⟩ := h
    unfold V at hv
    exact ⟨hv.1, hv.2⟩
  · rename_i z
    simp only [Option.some.injEq, Prod.mk.injEq] at h
    obtain ⟨rfl, rfl⟩ := h
    have := of_decide_eq_true hc
    unfold V at hv
    subst hv
    refine ⟨?_, trivial⟩
    simp only [Num.val]
    congr 1
    omega
  · cases h

/-- 'make' of a row. -/
theorem evMake_sound {t : TypeId} {len cap : Operand} {e : TypeId} {n : Num} {c : Bool} {sh : List CK} {z0 : List AVal} {by_ : Nat} (hop : o.op = .makeSlice t len cap) (ht : P.underlying t = some (.slice e))
    (hn : numOf (opd S len) = some (n, c)) (he : elemOf P e = some (sh, z0)) (hb : tbytes P e = some by_) (hs : sameOpd len cap = true) (hM : Mem M w0 ρ S w) (hlen : V ρ (opd S len) (a.eval len)) :
    OpOk P o a S w M w0 ρ ⟨.vec S.hp.length (lenL sh) 0 n, [], [], [⟨[], false, some (Vc.all sh n z0)⟩], c && needN n (.lit 0) by_, none⟩ := by
  intro hnd next Q hnx _
  simp only [Bool.and_eq_true] at hnd
  obtain ⟨hc, hnd⟩ := hnd
  obtain ⟨hv, hok⟩ := numOf_spec hn hc hlen
  have hcap : a.eval cap = a.eval len := by
    unfold sameOpd at hs
    split at hs
    · have := Nat.eq_of_beq_eq_true hs; subst this; rfl
    · simp only [Bool.and_eq_true] at hs
      have h1 := of_decide_eq_true hs.1
      have h2 := of_decide_eq_true hs.2
      subst h1; subst h2; rfl
    · cases hs
  obtain ⟨i, z, hi, hiz, his, h1, hsh, rfl⟩ := elemOf_spec he
  obtain ⟨hl0, hfit⟩ := shOf_spec _ _ hsh
  have hby := tbytes_spec hb hi
  unfold needN at hnd
  have ez : (Num.lit 0).val = 0 := rfl
  rw [ez] at hnd
  simp only [Bool.and_eq_true] at hnd
  have hn1 := Nat.le_of_ble_eq_true hnd.1
  have hn2 := Nat.le_of_ble_eq_true hnd.2
  simp only [Nat.add_eq, Nat.add_zero, Nat.mul_eq] at hn1 hn2
  have hn3 : (n.val : Int) * (by_ : Int) ≤ 140737488355328 := by
    have := Int.ofNat_le.2 hn1
    simpa using this
  have hzs : z.cells.size = lenL sh := by rw [hl0]; simp [absC]
  have hexec : (execOp a.eval o).run P w = .ok (.value (.slice (some ⟨w.heap.size, 0, none⟩) n.val n.val)) (w.alloc (.cells ((Array.range (n.val * lenL sh)).map (z.cells[· % lenL sh]!)) e)) := by
    have hm := run_make w t e i z ht hi hiz .i64 .i64 (n.val : Int) (n.val : Int) (by omega) (Int.le_refl _) (by rw [hby, Int.mul_comm]; omega) (by omega)
    unfold execOp; rw [hop]
    simp only [hcap, hv]
    have e1 : madeCells z.cells ((n.val : Int).toNat * i.size) = (Array.range (n.val * lenL sh)).map (z.cells[· % lenL sh]!) := by
      unfold madeCells
      rw [his, ← hzs]; rfl
    rw [e1] at hm
    simp [hm]
  unfold Oper.wp
  rw [hexec, Oper.upon_value]
  have hget : ∀ q p, q < n.val → p < lenL sh → ((Array.range (n.val * lenL sh)).map (z.cells[· % lenL sh]!))[q * lenL sh + p]? = z.cells[p]? := by
    intro q p hq hp
    have hlt := mul_lt_seg hq hp
    have hpz : p < z.cells.size := by omega
    simp only [Array.getElem?_map, Array.getElem?_range, hlt, if_true, Option.map_some, mod_seg q _ p hp]
    rw [getElem!_pos z.cells p hpz, Array.getElem?_eq_getElem hpz]
  have hk := Fr.alloc w (.cells ((Array.range (n.val * lenL sh)).map (z.cells[· % lenL sh]!)) e)
  have hcell : ∀ (r b : Nat) v, w.cell? ⟨r, b, none⟩ = some v → (w.alloc (.cells ((Array.range (n.val * lenL sh)).map (z.cells[· % lenL sh]!)) e)).cell? ⟨r, b, none⟩ = some v := fun r b v hv => by
    rw [World.cell?_alloc_lt _ _ _ (World.block_lt_of_cell? _ _ hv)]; exact hv
  refine hnx _ _ (upd ρ S.hp.length (w.heap.size, 0) n.val) (upd_extS hM.hp.dom _ _) (fun b v h => by cases h) ?_ ?_
  · unfold V
    exact ⟨hok, upd_kn .., _, _, rfl, Or.inr ⟨w.heap.size, 0, upd_new .., by simp, by rw [upd_cap]; simp, by rw [upd_cap]; simp⟩⟩
  · refine hM.newB hk (fun a ha => ha.elim) _ w.heap.size 0 n.val [] (by simp) (fun i u hu => by simp [vlook1] at hu) (fun i o x r' b' v _ _ hv => hcell _ _ _ hv) (fun i u r' b' q v _ _ _ _ hv => hcell _ _ _ hv)
      (fun o x ho => by simp at ho) (fun o ho => by simp at ho) ?_ ?_ ?_ (fun q _ => Or.inr hM.fr.size) (fun i r' b' hr _ => ?_) (fun i r' b' hr _ => ?_)
    · intro u q p ck hu hq hp
      simp only [Option.some.injEq] at hu
      subst hu
      have hp' := nthC_lt hp
      have hVL := VL_absC (upd ρ S.hp.length (w.heap.size, 0) n.val) z.cells.toList
      obtain ⟨v, hv1, hv2⟩ := VL_nth _ _ hVL p (by rw [← hl0]; exact hp')
      refine ⟨v, ?_, ?_⟩
      · rw [Nat.zero_add, World.cell?_alloc_new]
        show ((Array.range (n.val * lenL sh)).map (z.cells[· % lenL sh]!))[q * lenL sh + p]? = some v
        rw [hget q p hq hp', ← Array.getElem?_toList]; exact hv1
      · have := fits_V (hfit p ck hp) hv2
        have e2 : (Vc.all sh n (absC z.cells.toList)).mkA q p ck = mkW ck (nth p (absC z.cells.toList)) := by cases ck <;> rfl
        rw [e2]; exact this
    · intro u q hu _ hq
      simp only [Option.some.injEq] at hu
      subst hu
      have hq : q < n.val * lenL sh := hq
      refine ⟨?_, by rw [Nat.zero_add]; exact World.frozen?_alloc_new _ _ _ _⟩
      rw [Nat.zero_add, World.cell?_alloc_new]
      exact ⟨_, Array.getElem?_eq_getElem (by simpa using hq)⟩
    · intro u hu _
      simp only [Option.some.injEq] at hu
      subst hu; exact Nat.le_refl _
    · have := hM.hp.lt i r' b' hr; omega
    · have := hM.hp.lt i r' b' hr; omega
end
end Go.Ab
