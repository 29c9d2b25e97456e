package model_test

import (
	"strings"
	"testing"
)

// TestStatements is of P5.1: what each kind of statement does.
func TestStatements(t *testing.T) {
	for body, want := range map[string]string{
		"":                                         "",
		";{}{;}":                                   "",
		"{put(1);{put(2);}put(3);}":                "1 2 3",
		"x=4;put(x);int y=x;put(y);":               "4 4",
		"if(x)put(1);put(2);":                      "2",
		"if(!x)put(1);else put(2);":                "1",
		"if(x)put(1);else put(2);":                 "2",
		"if(x)if(1)put(1);else put(2);put(3);":     "3",
		"while(x<3)put(x++);put(9);":               "0 1 2 9",
		"while(x)put(1);":                          "",
		"while(1){if(x++==2)break;put(x);}put(x);": "1 2 3",
		"while(x<5){if(x++%2)continue;put(x);}":    "1 3 5",
		"do put(x++);while(x<3);":                  "0 1 2",
		"do put(1);while(0);put(2);":               "1 2",
		"do{if(x==1)continue;put(x);if(x==3)break;}while(x++<9);put(x);":               "0 2 3 3",
		"for(x=1;x<4;x++)put(x);put(x);":                                               "1 2 3 4",
		"for(;x<2;)put(x++);":                                                          "0 1",
		"for(;;){put(x);if(x++)break;}":                                                "0 1",
		"for(x=9;;x--)if(x<7)break;else put(x);":                                       "9 8 7",
		"for(;x<5;x++){if(x&1)continue;put(x);}put(x);":                                "0 2 4 5",
		"for(put(1);x<1;put(3))x++;for(;0;)put(4);":                                    "1 3",
		"for(x=0;x<2;x++)for(y=0;y<3;y++){if(y==1)continue;if(x)break;put(y);}put(y);": "0 2 0",
		"return 0;put(1);":                                                             "",
		"{return 0;}put(1);":                                                           "",
		"while(1)return 0;":                                                            "",
		"for(;;)switch(1){case 1:return 0;}":                                           "",
	} {
		mainPuts(t, "int x;int y;", body, want)
	}
}

// TestSwitches is of P5.1: where a switch goes on.
func TestSwitches(t *testing.T) {
	for s, want := range map[string]string{
		"switch(x){case 1:put(1);case 2:put(2);break;default:put(3);case 3:put(4);}put(5);":             "3 4 5|1 2 5|2 5|4 5",
		"switch(x){default:put(9);break;case 0:put(0);}":                                                "0|9|9|9",
		"switch(x){case 1:put(1);}put(5);":                                                              "5|1 5|5|5",
		"switch(x){put(7);case 1:put(1);}":                                                              "|1||",
		"switch(x){}switch(x);switch(x)put(1);":                                                         "|||",
		"switch(x)case 2:put(1);":                                                                       "1|1|1|1",
		"switch(x)default:put(1);":                                                                      "1|1|1|1",
		"switch(x){case 0:case 1:put(1);break;case 2:case 3:put(2);}":                                   "1|1|2|2",
		"switch(x){case 0:{put(0);case 1:put(1);{case 2:put(2);}}put(3);}":                              "0 1 2 3|1 2 3|2 3|",
		"switch(x){case 0:if(y){case 1:put(1);}else{case 2:put(2);}put(3);}":                            "2 3|1 3|2 3|",
		"switch(x){case 0:while(y<2){put(8);case 1:put(y++);case 2:put(5);if(y)break;}put(3);}":         "8 0 5 3|0 5 3|5 8 0 5 3|",
		"switch(x){case 0:do{put(8);case 1:y++;case 2:put(5);}while(y<2);}":                             "8 5 8 5|5 8 5|5 8 5 8 5|",
		"switch(x){case 0:for(y=0;y<2;y++){put(8);case 1:put(y);continue;case 2:put(7);}put(3);}":       "8 0 8 1 3|0 8 1 3|7 8 1 3|",
		"switch(x){case 0:switch(y){case 1:put(1);default:put(2);}put(3);break;case 1:put(4);}":         "2 3|4||",
		"switch(x){case 0:switch(1){case 0:put(1);case 3:put(2);}put(3);break;default:put(6);}":         "3|6|6|6",
		"switch(x){switch(y){case 0:put(1);}case 1:switch(y){case 0:put(2);break;put(3);}put(4);}":      "|2 4||",
		"for(;;){switch(x++){case 1:continue;case 2:break;case 4:return 0;default:put(7);}put(x);}":     "7 1 3 7 4|3 7 4|3 7 4|7 4",
		"while(x<3){switch(x){case 1:x++;break;default:put(x);}x++;}put(x);":                            "0 3|3|2 3|3",
		"switch(x){case 0:goto a;case 1:put(1);a:put(2);break;case 2:for(;;)break;put(3);}":             "2|1 2|3|",
		"switch(x+4294967295){case -1:put(1);break;case 4294967295:put(2);break;case 0:put(3);}":        "2|||",
		"switch((char)(x+127)){case 127:put(1);break;case -128:put(2);break;case 128:put(3);}":          "1|2||",
		"switch((unsigned char)(x-1)){case 255:put(1);break;case -1:put(2);break;case 256:put(3);}":     "1|||",
		"switch((unsigned int)x-1){case -1:put(1);break;case 4294967296:put(2);break;case 1:put(3);}":   "1|2|3|",
		"switch(x){case 4294967296:put(1);break;case 8589934593:put(2);break;case -4294967294:put(3);}": "1|2|3|",
		"switch((long)x){case 4294967296:put(1);break;case 1:put(2);}":                                  "|2||",
		"switch((unsigned long)x-1){case -1:put(1);break;case 1:put(2);}":                               "1||2|",
		"switch(sizeof(int)+x-5){case -1:put(1);break;case 4294967295:put(2);break;case 0:put(3);}":     "1|3||",
		"switch(x){case 2:int v=5;put(v);case 0:put(v);v=6;}":                                           "0||5 5|",
	} {
		for x, want := range strings.Split(want, "|") {
			mainPuts(t, "int x;int y;", "x=get();"+s, want, int64(x))
		}
	}
}

// TestGotos is of P5.1: into blocks and out of them.
func TestGotos(t *testing.T) {
	for body, want := range map[string]string{
		"goto a;put(1);a:put(2);":                                                          "2",
		"a:put(x);if(x++<2)goto a;":                                                        "0 1 2",
		"goto a;{put(1);a:put(2);}put(3);":                                                 "2 3",
		"goto a;{{{put(1);a:put(2);}put(4);}}put(3);":                                      "2 4 3",
		"goto a;if(x){put(1);a:put(2);}else put(3);put(4);":                                "2 4",
		"goto a;if(1)put(1);else{put(3);a:put(2);}put(4);":                                 "2 4",
		"goto a;if(1)a:put(1);":                                                            "1",
		"goto a;while(x<3){put(1);a:put(x++);}put(4);":                                     "0 1 1 1 2 4",
		"goto a;while(0){put(1);a:put(2);}put(4);":                                         "2 4",
		"goto a;do{put(1);a:put(x++);}while(x<2);put(4);":                                  "0 1 1 4",
		"goto a;for(x=7;x<3;x++){put(1);a:put(x);}put(4);":                                 "0 1 1 1 2 4",
		"goto a;for(x=7;;x++){a:if(x==2)break;put(x);}put(4);":                             "0 1 4",
		"goto a;for(;;){while(1){a:break;}put(1);break;}put(4);":                           "1 4",
		"goto a;while(x<1){x++;put(1);while(1){a:put(2);goto b;}}b:put(3);":                "2 3",
		"goto a;switch(x){case 0:put(1);a:put(2);break;put(3);}put(4);":                    "2 4",
		"goto a;while(x<2){switch(9){a:put(1);continue;default:x++;}}put(x);":              "1 2",
		"while(1){while(1){for(;;){do{switch(0){case 0:goto out;}}while(1);}}}out:put(1);": "1",
		"x=1;goto a;{int x=5;a:put(x);x=6;b:put(x);x++;}put(x);if(x++<2)goto b;":           "0 6 1 7 2",
		"a:{int v;put(v);v=8;put(v);}if(x++<1)goto a;":                                     "0 8 0 8",
		"{int v=3;b:put(v++);if(x++<2)goto b;}":                                            "3 4 5",
		"int v=4;a:v++;goto c;int w=9;c:put(w);w=7;if(v<6)goto a;put(v);":                  "0 7 6",
		"int n=3;int s=1;f:if(n==0)goto g;s=s*n--;goto f;g:put(s);":                        "6",
		"a:;b:;c:put(x++);if(x==1)goto b;if(x==2)goto c;if(x==3)goto a;":                   "0 1 2 3",
		"int put1;put:put(1);if(x++<1)goto put;x:put(x);if(x++<3)goto x;":                  "1 1 2 3",
	} {
		mainPuts(t, "int x;", body, want)
	}
	puts(t, "void f(int n){a:put(n);if(n-->1)goto a;}int main(){a:f(2);if(get())goto a;}", "2 1 2 1", 1)
}

// TestLocals is of P5.1: a local is made anew by its declaration, and by each call.
func TestLocals(t *testing.T) {
	for body, want := range map[string]string{
		"for(x=0;x<3;x++){int v;put(v);v=x+5;}":                                   "0 0 0",
		"for(x=0;x<3;x++){int v=x;put(v++);put(v);}":                              "0 1 1 2 2 3",
		"for(x=0;x<2;x++){int v[3];put(v[0]+v[1]+v[2]);v[x]=9;v[2]=4;put(v[x]);}": "0 9 0 9",
		"for(x=0;x<2;x++){int v[3];int*p;put(p==0);p=v;p[1]=7;put(v[1]);}":        "1 7 1 7",
		"int v=1;{int v=v+1;{int v=v+1;put(v);}put(v);}put(v);":                   "3 2 1",
		"int v=5;int*p=&v;for(x=0;x<2;x++){put(*p);int w=*p+1;p=&w;}":             "5 6",
		"int v[2];v[0]=1;int w[2];put(w[0]);put(w[1]);int u=v[0];put(u);":         "0 0 1",
		"if(1)int v=3;put(v);": "3",
		"unsigned char v=-1;put(v);char w=v;put(w);short s=70000;put(s);long l=v;put(l);": "255 -1 4464 255",
	} {
		mainPuts(t, "int x;", body, want)
	}
	puts(t, "int f(int n){int v;int w[2];put(v+w[0]+w[1]);v=n;w[n]=n+1;if(n){f(n-1);}put(v+w[n]);return 0;}int main(){return f(1);}", "0 0 1 3")
	puts(t, "int f(){int v;goto a;int w=1;a:put(w);w=5;return w;}int main(){f();put(f());}", "0 0 5")
}
